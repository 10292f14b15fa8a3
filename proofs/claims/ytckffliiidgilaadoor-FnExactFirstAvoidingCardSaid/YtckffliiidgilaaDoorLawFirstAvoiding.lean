/- For every argument the law FnExactFirstAvoiding returns true: FirstAvoiding answers as its model does and leaves its list as it was. The condition is the row's own: the package's one sentinel lies as its initialiser lays it; the card ties that to the program's text. -/
import Derived.Test.YtckffliiidgilaaDoorTie
import Derived.Test.YtckffliiidgilaaDoorCards
import Derived.Test.YtckffliiidgilaaDoorFij
namespace Go.Proofs.YtckffliiidgilaaDoor
set_option linter.unusedVariables false
set_option linter.unusedSimpArgs false
open Go Go.RowKit Go.ChangeShapes Go.WideShapes Go.ChangeAt
set_option maxRecDepth 100000 in
set_option maxHeartbeats 2000000 in
theorem walk10 (n : Int) (hn0 : -9223372036854775808 ≤ n) (hn1 : n ≤ 9223372036854775807) (a : Option Addr) (zs : List Int) (cap : Nat) (e0 : Addr) (w : World) (hT : Er w e0) (hs : SlI w a zs) (hl : zs.length ≤ 9223372036854775807) :
    Calls Tryd.prog 10 #[.int .i64 n, .slice a zs.length cap] w fun e w' => e = .returned (.bool true) ∧ Below w.heap.size w w' := by
  by_cases hbig : 1048576 < zs.length
  · go_enter Tryd.func10, Tryd.ntmps10
    go_wp2
    go_ret
    exact ⟨rfl, Below.refl _ _⟩
  · have hsm : zs.length ≤ 1048576 := by omega
    obtain ⟨rn, rk, rb, hbr, hv⟩ := fi_form n zs
    obtain ⟨cd, hcd⟩ : ∃ q, q = fiC n zs := ⟨_, rfl⟩
    have Hz := zero26
    have HT := hidd hT
    have HSL := hidd hs
    have HSP := hidd (fun W b c h => spec35 n zs b c W h hsm)
    have HIM := hidd (fun W b c hE h => impl36 n zs b c e0 W h hsm hE)
    rw [hv, ← hcd] at HSP HIM
    have HSR := hidd (size_c26 rn rk hbr)
    have HOR := hidd (size_cc 0 0 rn rk zbl_bys hbr)
    have HAR := hidd (ccells_one rn rk rb)
    have HEQ := hidd (fun W => eqCol_same rn rk rb hbr W)
    obtain ⟨R, hR⟩ : ∃ R, R = (ccells rn rk rb).toArray := ⟨_, rfl⟩
    rw [← hR] at HSP HIM HSR HOR HAR HEQ
    clear hv hcd hT hs hl hbig hn0 hn1 hR
    have hne2 : (cd != cd) = false := by simp
    go_enter Tryd.func10, Tryd.ntmps10
    go_wp2_with fail
    refine (copy19 zs a cap _ HSL.out hsm).mono ?_
    rintro e w1 ⟨rfl, hk, hb1⟩
    have G1 := hidd (And.intro hb1 (sl_of_blk hk))
    clear hk hb1
    go_wp2_with fail
    refine (HSP.out _ _ _ G1.out.2).mono ?_
    rintro e w2 ⟨rfl, hb2⟩
    have hb := G1.out.1.trans (hb2.mono G1.out.1.size)
    have HB2 := hidd (Blk.new w2 (ccells 0 0 zbl).toArray 28 _ rfl)
    obtain ⟨W3, hW3⟩ : ∃ W3, W3 = (w2.alloc (.cells (ccells 0 0 zbl).toArray 28)).setRow w2.heap.size R := ⟨_, rfl⟩
    have G3 := hidd (show Blk W3 w2.heap.size R 28 ∧ Below w.heap.size w W3 from by rw [hW3]; exact ⟨HB2.out.rowSame _, below_setRow (hb.alloc hb.size _) hb.size _⟩)
    clear hb2 hb
    go_upto_region 4 with (refine wpList_store_row rfl 28 (.tmp 5) (.tmp 18) rfl w2.heap.size _ rfl rfl 28 _ HB2.out HSR.out HOR.out HAR.out ?_)
    rw [← hW3]
    clear hW3
    go_wp2_with fail
    refine (copy19 zs a cap _ (HSL.out.below G3.out.2 (Nat.le_refl _)) hsm).mono ?_
    rintro e w4 ⟨rfl, hk, hb4⟩
    have G4 := hidd (And.intro (G3.out.1.below hb4 G3.out.1.lt) (And.intro (G3.out.2.trans (hb4.mono G3.out.2.size)) (sl_of_blk hk)))
    clear hk hb4
    go_wp2_with fail
    refine (HIM.out _ _ _ (HT.out.below G4.out.2.1 HT.out.lt) G4.out.2.2).mono ?_
    rintro e w5 ⟨rfl, hb5⟩
    have HB5 := hidd (Blk.new w5 (ccells 0 0 zbl).toArray 28 _ rfl)
    obtain ⟨W6, hW6⟩ : ∃ W6, W6 = (w5.alloc (.cells (ccells 0 0 zbl).toArray 28)).setRow w5.heap.size R := ⟨_, rfl⟩
    have G6 := hidd (show Blk W6 w5.heap.size R 28 ∧ Blk W6 w2.heap.size R 28 ∧ Below w.heap.size w W6 ∧ SlI W6 _ zs from by
      have k1 := G4.out.1.below hb5 G4.out.1.lt
      have k2 := G4.out.2.1.trans (hb5.mono G4.out.2.1.size)
      have k3 := k1.lt
      have k4 := below_setRow ((Below.refl w5.heap.size w5).alloc (Nat.le_refl _) (.cells (ccells 0 0 zbl).toArray 28)) (Nat.le_refl _) R
      rw [hW6]; exact ⟨HB5.out.rowSame _, (k1.alloc _).rowOther _ _ (by omega), k2.trans (k4.mono k2.size), (G4.out.2.2.below hb5 (Nat.le_refl _)).below k4 (Nat.le_refl _)⟩)
    clear hb5
    go_upto_region 6 with (refine wpList_store_row rfl 28 (.tmp 8) (.tmp 26) rfl w5.heap.size _ rfl rfl 28 _ HB5.out HSR.out HOR.out HAR.out ?_)
    rw [← hW6]
    clear hW6
    go_wp2_with (first
      | (refine wpList_load_row rfl 28 (.tmp 8) rfl w5.heap.size rfl 28 _ (0,0) _ G6.out.1 Tryd.underlying28 rfl HSR.out ?_)
      | (refine wpList_load_row rfl 28 (.tmp 5) rfl w2.heap.size rfl 28 _ (0,0) _ G6.out.2.1 Tryd.underlying28 rfl HSR.out ?_))
    refine (HEQ.out _).mono ?_
    rintro e w7 ⟨rfl, hb7⟩
    have G7 := hidd (And.intro (G6.out.2.2.1.trans (hb7.mono G6.out.2.2.1.size)) (G6.out.2.2.2.below hb7 (Nat.le_refl _)))
    clear hb7
    go_wp2_with fail
    refine (copy19 zs a cap _ (HSL.out.below G7.out.1 (Nat.le_refl _)) hsm).mono ?_
    rintro e w8 ⟨rfl, hk, hb8⟩
    have G8 := hidd (And.intro (G7.out.1.trans (hb8.mono G7.out.1.size)) (And.intro (G7.out.2.below hb8 (Nat.le_refl _)) (sl_of_blk hk)))
    clear hk hb8
    go_wp2_with fail
    refine (eq22 zs _ _ _ _ _ G8.out.2.1 G8.out.2.2 hsm).mono ?_
    rintro e w9 ⟨rfl, hb9⟩
    have G9 := hidd (G8.out.1.trans (hb9.mono G8.out.1.size))
    clear hb9
    go_wp2
    go_ret
    exact ⟨rfl, G9.out⟩
set_option maxRecDepth 100000 in
theorem lifted10 (os : Os) (started : os.Started) (H : Type) (enc : TypeId × Value → H) :
    ReturnsInHanded {} Tryd.checked os 10 .any (fun w args => (Rows.fnExactFirstAvoidingSpec.pre enc Tryd.prog Tryd.f10 [] false w args ∧ laidMetH Tryd.prog Rows.fnExactFirstAvoidingRow.laid w) ∧ sizedMet enc Tryd.prog Tryd.f10 (OpenSpec.ofChange Rows.fnExactFirstAvoidingSpec) false w args) (Rows.fnExactFirstAvoidingSpec.post enc Tryd.prog Tryd.f10 false true false false) := by
  refine returnsInHanded_of_change_and (C := Tryd.checked) (X := fun w _ => laidMetH Tryd.prog Rows.fnExactFirstAvoidingRow.laid w) (fun _ _ _ hh h => h.of_heap hh) own started (by kernel_rfl) Tryd.func10
    (ChangeSpec.witness_at (enc := enc) (C := Tryd.checked) (X := fun w _ => laidMetH Tryd.prog Rows.fnExactFirstAvoidingRow.laid w) false (laidWorld os) #[.int .i64 0, .slice none 0 0] 8 rfl (by kernel_rfl) (by kernel_rfl) (by kernel_rfl) (by kernel_rfl) (by kernel_rfl) (laid_met os _)) ?_
  intro W base args ds gs before hval0 hW hcnd _ hL _
  have hval : ∀ (j : Nat) t v, Tryd.f10.params[j]? = some t → args[j]? = some v → Value.okWide Tryd.prog W .any base t v := hval0
  have hW' := hW
  obtain ⟨p, q, hA0, hV0, rfl, hfz, hnd⟩ := hW
  have hA : DataW.TrodAll enc Tryd.prog W 0 (fun _ => true) true Tryd.f10.params.toList args.toList ds p := hA0
  have hV : DataW.TrodVars enc Tryd.prog W (fun _ => true) ["loop.example/g01362/impl.errNoSizes"] gs q := hV0
  obtain ⟨e0, hT, hv0⟩ := er_of2 hL
  obtain ⟨rfl, rfl⟩ := hV.unique (vars_read enc hv0 trivial _)
  rw [Tryd.params10] at hA hval
  obtain ⟨v0, vs0, d0, ds0, p0, q0, hargs, rfl, rfl, h0, r0⟩ := trodAll_cons hA
  obtain ⟨v1, vs1, d1, ds1, p1, q1, rfl, rfl, rfl, h1, r1⟩ := trodAll_cons r0
  obtain ⟨rfl, rfl, rfl⟩ := trodAll_nil r1
  obtain rfl : args = #[v0, v1] := by cases args; simp_all
  have k0 := h0
  have lt0 := lt_of_trod k0
  obtain ⟨u0, rfl, lo0, hi0⟩ := open_num (hval 0 2 v0 rfl rfl) h0
  have k1 := h1
  have lt1 := lt_of_trod k1
  obtain ⟨a1, zs1, cap1, rfl, hs1, hl1, hz1⟩ := open_list (hval 1 25 v1 rfl rfl) h1
  clear hA0 hV0 hval0
  refine (walk10 u0 lo0 hi0 a1 zs1 cap1 e0 W hT hs1 hl1).mono fun e W' ⟨he, bel⟩ => ?_
  subst he
  exact ⟨_, rfl, _, _, _, [], _, [.cell 0 0], hW', trodAll_mk1 (shut_bool Tryd.underlying4 _), (trodAll_cons_mk (Below.trod laidOut read2 row2 k0 bel lt0) (trodAll_cons_mk (Below.trod laidOut read29 row29 k1 bel lt1) trodAll_mk0)), vars_read enc (var_below bel hv0) trivial _, bel.frame _, fun h => by cases h⟩
theorem fnExactFirstAvoiding_holds : Rows.FnExactFirstAvoidingSaid :=
  OpenClaim.holds_of_wide 10 Tryd.f10 rfl rfl rfl rfl rfl rfl rfl ⟨rfl, rfl, rfl, rfl, rfl⟩ rfl rfl rfl rfl rfl (by kernel_rfl) Tryd.func10 (by kernel_rfl)
    (of_decide_eq_true (by kernel_rfl)) (by unfold Func.isWrapper; first | (rw [if_pos (by decide +kernel)]; kernel_rfl) | (rw [if_neg (by decide +kernel)]; exact ⟨rfl, rfl⟩))
    (fun os started H enc _ => lifted10 os started H enc)
theorem plain10 (f : FuncId) (fn : Func) (hf : Tryd.pinned.checked.prog.funcNamed "loop.example/g01362/laws.FnExactFirstAvoiding" = some f) (hfn : Tryd.pinned.checked.prog.funcs[f]? = some fn) :
    true = Tryd.pinned.checked.prog.looks [] ∧ ∀ (j : Nat) t, fn.params[j]? = some t → Tryd.pinned.checked.prog.wantsStandIn t = false := by
  obtain rfl : f = 10 := Option.some.inj ((show Tryd.prog.funcNamed "loop.example/g01362/laws.FnExactFirstAvoiding" = some 10 by kernel_rfl).symm.trans hf) |>.symm
  obtain rfl : fn = Tryd.f10 := (Option.some.inj (Tryd.func10.symm.trans hfn)).symm
  refine ⟨by kernel_rfl, fun j t ht => ?_⟩
  rw [Tryd.params10] at ht
  have hm : t ∈ [2, 25] := by simpa using Array.mem_of_getElem? ht
  have hall : ([2, 25].all fun u => !Tryd.prog.wantsStandIn u) = true := by kernel_rfl
  exact (show Tryd.prog.wantsStandIn t = false by simpa using List.all_eq_true.1 hall t hm)
theorem fnExactFirstAvoiding_card : Rows.FnExactFirstAvoidingCardSaid :=
  Claim7.holds_tied_plain_at .later [] _ _ _ _ fnExactFirstAvoiding_holds (fun _ h => by cases h) (by kernel_rfl) (fun _ h => by cases h) fnExactFirstAvoiding_row_tie rfl ⟨rfl, rfl⟩ (by kernel_rfl) rfl plain10 (by kernel_rfl)
#print axioms fnExactFirstAvoiding_card
end Go.Proofs.YtckffliiidgilaaDoor
