/- For every argument the law FnExactFirstExtension returns true: FirstExtension answers as its model does, leaves its list as it was, and each answer is a list of its own. The condition is the row's own: the package's one sentinel lies as its initialiser lays it; the card ties that to the program's text. -/
import Derived.Test.YtckffliiidgilaaDoorWit
import Derived.Test.YtckffliiidgilaaDoorTie
import Derived.Test.YtckffliiidgilaaDoorCards
import Derived.Test.YtckffliiidgilaaDoorFxe
namespace Go.Proofs.YtckffliiidgilaaDoor
set_option linter.unusedVariables false
set_option linter.unusedSimpArgs false
open Go Go.RowKit Go.ChangeShapes Go.WideShapes Go.ChangeAt
set_option maxRecDepth 100000 in
set_option maxHeartbeats 4000000 in
theorem walk5 (n k : Int) (bs : List Nat) (hb : Bys bs) (a : Option Addr) (zs : List Int) (cap : Nat) (e0 : Addr) (w : World) (hT : Er w e0) (hs : SlI w a zs) (hl : zs.length ≤ 9223372036854775807) :
    Calls Tryd.prog 5 #[.agg (ccells n k bs).toArray, .slice a zs.length cap] w fun e w' => e = .returned (.bool true) ∧ Below w.heap.size w w' := by
  by_cases hbig : 1048576 < zs.length
  · go_enter Tryd.func5, Tryd.ntmps5
    go_wp2
    go_ret
    exact ⟨rfl, (Below.refl _ _).alloc (Nat.le_refl _) _⟩
  · have hsm : zs.length ≤ 1048576 := by omega
    have HS := hidd (size_c24 n k hb)
    have hZ : (fxV n k bs zs).length ≤ 17 := fxV_len
    have hSP := fun b c W h => spec20 n k bs hb zs b c W h hsm
    have hIM := fun b c W h1 h3 => impl21 n k bs hb zs b c e0 W h3 hsm h1
    generalize fxV n k bs zs = ZL at hSP hIM hZ
    generalize fxC n k bs zs = cd at hSP hIM
    have HSP := hidd hSP
    have HIM := hidd hIM
    have HSL := hidd hs
    have HT := hidd hT
    clear hSP hIM hs hT hl hbig
    have hne2 : (cd != cd) = false := by simp
    have hm1 : ((1 + (ZL.length : Int)) != (1 + (ZL.length : Int))) = false := by simp
    go_enter Tryd.func5, Tryd.ntmps5
    go_wp2_with (refine wpList_load_row rfl 24 (.tmp 2) rfl w.heap.size rfl 24 _ (0,0) _ (Blk.new _ _ _ _ rfl) Tryd.underlying24 rfl HS.out ?_)
    refine (toCol_any n k bs _ hb).mono ?_
    rintro e w1 ⟨rfl, hb1⟩
    have G1 := hidd (And.intro (((Below.refl w.heap.size w).alloc (Nat.le_refl _) (.cells (ccells n k bs).toArray 24)).trans (hb1.mono (by simp))) ((Blk.new w (ccells n k bs).toArray 24 _ rfl).below hb1 (by simp)))
    clear hb1
    go_wp2_with fail
    refine (copy19 zs a cap _ (HSL.out.below G1.out.1 (Nat.le_refl _)) hsm).mono ?_
    rintro e w2 ⟨rfl, hk2, hb2⟩
    have G2 := hidd (And.intro (G1.out.1.trans (hb2.mono G1.out.1.size)) (And.intro (G1.out.2.below hb2 G1.out.2.lt) (sl_of_blk hk2)))
    clear hk2 hb2
    go_wp2_with fail
    refine (HSP.out _ _ _ G2.out.2.2).mono ?_
    rintro e w3 ⟨a0, cap0, rfl, o0, hb3⟩
    have G3 := hidd (And.intro (G2.out.1.trans (hb3.mono G2.out.1.size)) (And.intro (G2.out.2.1.below hb3 G2.out.2.1.lt) o0))
    clear hb3 o0
    go_wp2_with fail
    refine (copy19 zs a cap _ (HSL.out.below G3.out.1 (Nat.le_refl _)) hsm).mono ?_
    rintro e w4 ⟨rfl, hk4, hb4⟩
    have G4 := hidd (And.intro (G3.out.1.trans (hb4.mono G3.out.1.size)) (And.intro (G3.out.2.1.below hb4 G3.out.2.1.lt) (And.intro (G3.out.2.2.below hb4 (Nat.le_refl _)) hk4)))
    clear hk4 hb4
    go_wp2_with (refine wpList_load_row rfl 24 (.tmp 2) rfl w.heap.size rfl 24 _ (0,0) _ G4.out.2.1 Tryd.underlying24 rfl HS.out ?_)
    refine (toCol_any n k bs _ hb).mono ?_
    rintro e w5 ⟨rfl, hb5⟩
    have G5 := hidd (And.intro (G4.out.1.trans (hb5.mono G4.out.1.size)) (And.intro (G4.out.2.1.below hb5 G4.out.2.1.lt) (And.intro (G4.out.2.2.1.below hb5 (Nat.le_refl _)) (And.intro (G4.out.2.2.2.below hb5 G4.out.2.2.2.lt) (show w3.heap.size < w5.heap.size from Nat.lt_of_lt_of_le G4.out.2.2.2.lt hb5.size)))))
    have HT5 := hidd (HT.out.below G5.out.1 HT.out.lt)
    clear hb5
    go_wp2_with fail
    refine (HIM.out _ _ _ HT5.out (sl_of_blk G5.out.2.2.2.1)).mono ?_
    rintro e w6 ⟨a1, cap1, rfl, o1, hb6⟩
    have G6 := hidd (And.intro (G5.out.1.trans (hb6.mono G5.out.1.size)) (And.intro (G5.out.2.1.below hb6 G5.out.2.1.lt) (And.intro (G5.out.2.2.1.below hb6 (Nat.le_refl _)) (And.intro (G5.out.2.2.2.1.below hb6 G5.out.2.2.2.1.lt) (And.intro o1 hb6.size)))))
    clear o1 hb6
    go_wp2_with fail
    refine (eq22 ZL a1 a0 _ _ _ G6.out.2.2.2.2.1.sl G6.out.2.2.1.sl (by omega)).mono ?_
    rintro e w7 ⟨rfl, hb7⟩
    have G7 := hidd (And.intro (G6.out.1.trans (hb7.mono G6.out.1.size)) (And.intro (G6.out.2.1.below hb7 G6.out.2.1.lt) (And.intro (G6.out.2.2.1.below hb7 (Nat.le_refl _)) (And.intro (G6.out.2.2.2.1.below hb7 G6.out.2.2.2.1.lt) (And.intro (G6.out.2.2.2.2.1.below hb7 (Nat.le_refl _)) (Nat.le_trans G6.out.2.2.2.2.2 hb7.size))))))
    clear hb7
    go_wp2_with fail
    refine (copy19 zs a cap _ (HSL.out.below G7.out.1 (Nat.le_refl _)) hsm).mono ?_
    rintro e w8 ⟨rfl, hk8, hb8⟩
    have G8 := hidd (And.intro (G7.out.1.trans (hb8.mono G7.out.1.size)) (And.intro (G7.out.2.1.below hb8 G7.out.2.1.lt) (And.intro (G7.out.2.2.1.below hb8 (Nat.le_refl _)) (And.intro (G7.out.2.2.2.1.below hb8 G7.out.2.2.2.1.lt) (And.intro (G7.out.2.2.2.2.1.below hb8 (Nat.le_refl _)) (Nat.le_trans G7.out.2.2.2.2.2 hb8.size))))))
    have K8 := hidd (sl_of_blk hk8)
    clear hk8 hb8
    go_wp2_with fail
    refine (eq22 zs _ _ _ _ _ (sl_of_blk G8.out.2.2.2.1) K8.out hsm).mono ?_
    rintro e w9 ⟨rfl, hb9⟩
    have G9 := hidd (And.intro (G8.out.1.trans (hb9.mono G8.out.1.size)) (And.intro (G8.out.2.1.below hb9 G8.out.2.1.lt) (And.intro (G8.out.2.2.1.below hb9 (Nat.le_refl _)) (And.intro (own_of_blk (G8.out.2.2.2.1.below hb9 G8.out.2.2.2.1.lt) (Nat.le_refl _)) (And.intro (G8.out.2.2.2.2.1.below hb9 (Nat.le_refl _)) (Nat.le_trans G8.out.2.2.2.2.2 hb9.size))))))
    clear hb9 K8
    go_wp2_with fail
    refine (mark29o zs.length _ _ w3.heap.size 1 zs _ rfl G9.out.2.2.2.1 hsm (by omega) (by omega)).mono ?_
    rintro e w10 ⟨rfl, o10, mk10⟩
    have hz10 := mk10.below G9.out.2.2.2.1 (Nat.le_trans (Nat.le_of_lt G5.out.2.2.2.2) G9.out.2.2.2.2.2)
    have G10 := hidd (show Below w.heap.size w w10 ∧ Blk w10 w.heap.size (ccells n k bs).toArray 24 ∧ OwnL w10 w2.heap.size a0 ZL ∧ OwnL w10 w5.heap.size a1 ZL ∧ w5.heap.size ≤ w10.heap.size from
      ⟨G9.out.1.trans (hz10.mono G3.out.1.size), G9.out.2.1.below hz10 G3.out.2.1.lt, mk10.own G9.out.2.2.1 (fun _ h2 p q hp hq => by
        cases hp
        have := G3.out.2.2.lt h2 q hq
        show q.block ≠ w3.heap.size
        omega), mk10.own G9.out.2.2.2.2.1 (fun _ h2 p q hp hq => by
        cases hp
        have h6 := G9.out.2.2.2.2.1.ge h2 q hq
        have h7 := G5.out.2.2.2.2
        show q.block ≠ w3.heap.size
        omega), Nat.le_trans G9.out.2.2.2.2.2 hz10.size⟩)
    clear o10 mk10 hz10
    go_wp2_with fail
    refine (eq22 ZL a1 a0 _ _ _ G10.out.2.2.2.1.sl G10.out.2.2.1.sl (by omega)).mono ?_
    rintro e w11 ⟨rfl, hb11⟩
    have G11 := hidd (show Below w.heap.size w w11 ∧ Blk w11 w.heap.size (ccells n k bs).toArray 24 ∧ OwnL w11 w2.heap.size a0 ZL ∧ OwnL w11 w5.heap.size a1 ZL ∧ w5.heap.size ≤ w11.heap.size from
      ⟨G10.out.1.trans (hb11.mono G10.out.1.size), G10.out.2.1.below hb11 G10.out.2.1.lt, G10.out.2.2.1.below hb11 (Nat.le_refl _), G10.out.2.2.2.1.below hb11 (Nat.le_refl _), Nat.le_trans G10.out.2.2.2.2 hb11.size⟩)
    clear hb11
    go_wp2_with fail
    refine (mark29o ZL.length a1 _ w5.heap.size 1 ZL _ rfl G11.out.2.2.2.1 (by omega) (by omega) (by omega)).mono ?_
    rintro e w12 ⟨rfl, o12, mk12⟩
    have hz12 := mk12.below G11.out.2.2.2.1 G11.out.2.2.2.2
    have G12 := hidd (show Below w.heap.size w w12 ∧ Blk w12 w.heap.size (ccells n k bs).toArray 24 ∧ OwnL w12 w2.heap.size a0 ZL ∧ OwnL w12 w5.heap.size a1 (marks 1 ZL.length) from
      ⟨G11.out.1.trans (hz12.mono G5.out.1.size), G11.out.2.1.below hz12 G5.out.2.1.lt, mk12.own G11.out.2.2.1 (fun h1 h2 p q hp hq => by
        have h6 := G11.out.2.2.2.1.ge h1 p hp
        have h7 := G3.out.2.2.lt h2 q hq
        have h8 := G5.out.2.2.2.2
        omega), o12⟩)
    clear o12 mk12 hz12
    go_wp2_with fail
    refine (held30 ZL.length a1 _ w5.heap.size 1 _ G12.out.2.2.2 (by omega) (by omega) (by omega)).mono ?_
    rintro e w' ⟨rfl, rfl⟩
    go_wp2_with (refine wpList_load_row rfl 24 (.tmp 2) rfl w.heap.size rfl 24 _ (0,0) _ G12.out.2.1 Tryd.underlying24 rfl HS.out ?_)
    refine (toCol_any n k bs _ hb).mono ?_
    rintro e w13 ⟨rfl, hb13⟩
    have G13 := hidd (And.intro (G12.out.1.trans (hb13.mono G12.out.1.size)) (And.intro (G12.out.2.2.1.below hb13 (Nat.le_refl _)) (G12.out.2.2.2.below hb13 (Nat.le_refl _))))
    clear hb13
    go_wp2_with fail
    refine (copy19 zs a cap _ (HSL.out.below G13.out.1 (Nat.le_refl _)) hsm).mono ?_
    rintro e w14 ⟨rfl, hk14, hb14⟩
    have G14 := hidd (And.intro (G13.out.1.trans (hb14.mono G13.out.1.size)) (And.intro (G13.out.2.1.below hb14 (Nat.le_refl _)) (And.intro (G13.out.2.2.below hb14 (Nat.le_refl _)) (sl_of_blk hk14))))
    have HT14 := hidd (HT.out.below G14.out.1 HT.out.lt)
    clear hk14 hb14
    go_wp2_with fail
    refine (HIM.out _ _ _ HT14.out G14.out.2.2.2).mono ?_
    rintro e w15 ⟨a2, cap2, rfl, o15, hb15⟩
    have G15 := hidd (And.intro (G14.out.1.trans (hb15.mono G14.out.1.size)) (And.intro (G14.out.2.1.below hb15 (Nat.le_refl _)) (And.intro (G14.out.2.2.1.below hb15 (Nat.le_refl _)) o15)))
    clear o15 hb15
    go_wp2_with fail
    refine (eq22 ZL a2 a0 _ _ _ G15.out.2.2.2.sl G15.out.2.1.sl (by omega)).mono ?_
    rintro e w16 ⟨rfl, hb16⟩
    have G16 := hidd (And.intro (G15.out.1.trans (hb16.mono G15.out.1.size)) (G15.out.2.2.1.below hb16 (Nat.le_refl _)))
    clear hb16
    go_wp2_with fail
    refine (held30 ZL.length a1 _ w5.heap.size 1 _ G16.out.2 (by omega) (by omega) (by omega)).mono ?_
    rintro e w' ⟨rfl, rfl⟩
    go_wp2
    go_ret
    exact ⟨rfl, G16.out.1⟩
set_option maxRecDepth 100000 in
theorem lifted5 (os : Os) (started : os.Started) (H : Type) (enc : TypeId × Value → H) :
    ReturnsInHanded {} Tryd.checked os 5 .any (fun w args => (Rows.fnExactFirstExtensionSpec.pre enc Tryd.prog Tryd.f5 [] false w args ∧ laidMetH Tryd.prog Rows.fnExactFirstExtensionRow.laid w) ∧ sizedMet enc Tryd.prog Tryd.f5 (OpenSpec.ofChange Rows.fnExactFirstExtensionSpec) false w args) (Rows.fnExactFirstExtensionSpec.post enc Tryd.prog Tryd.f5 false true false false) := by
  refine returnsInHanded_of_change_and (C := Tryd.checked) (X := fun w _ => laidMetH Tryd.prog Rows.fnExactFirstExtensionRow.laid w) (fun _ _ _ hh h => h.of_heap hh) own started (by kernel_rfl) Tryd.func5
    (ChangeSpec.witness_at (enc := enc) (C := Tryd.checked) (X := fun w _ => laidMetH Tryd.prog Rows.fnExactFirstExtensionRow.laid w) false (laidWorld os) #[.agg (ccells 0 0 zbl).toArray, .slice none 0 0] 8 rfl (by kernel_rfl) (by kernel_rfl) (by kernel_rfl) (by kernel_rfl) (by kernel_rfl) (laid_met os _)) ?_
  intro W base args ds gs before hval0 hW hcnd _ hL _
  have hval : ∀ (j : Nat) t v, Tryd.f5.params[j]? = some t → args[j]? = some v → Value.okWide Tryd.prog W .any base t v := hval0
  have hW' := hW
  obtain ⟨p, q, hA0, hV0, rfl, hfz, hnd⟩ := hW
  have hA : DataW.TrodAll enc Tryd.prog W 0 (fun _ => true) true Tryd.f5.params.toList args.toList ds p := hA0
  have hV : DataW.TrodVars enc Tryd.prog W (fun _ => true) ["loop.example/g01362/impl.errNoSizes"] gs q := hV0
  obtain ⟨e0, hT, hv0⟩ := er_of2 hL
  obtain ⟨rfl, rfl⟩ := hV.unique (vars_read enc hv0 trivial _)
  rw [Tryd.params5] at hA hval
  obtain ⟨v0, vs0, d0, ds0, p0, q0, hargs, rfl, rfl, h0, r0⟩ := trodAll_cons hA
  obtain ⟨v1, vs1, d1, ds1, p1, q1, rfl, rfl, rfl, h1, r1⟩ := trodAll_cons r0
  obtain ⟨rfl, rfl, rfl⟩ := trodAll_nil r1
  obtain rfl : args = #[v0, v1] := by cases args; simp_all
  have k0 := h0
  have lt0 := lt_of_trod k0
  obtain ⟨n0, c0, b0, rfl, hb0, _, _⟩ := open_col Tryd.underlying24 cells24 (hval 0 24 v0 rfl rfl) h0
  have k1 := h1
  have lt1 := lt_of_trod k1
  obtain ⟨a1, zs1, cap1, rfl, hs1, hl1, hz1⟩ := open_list (hval 1 25 v1 rfl rfl) h1
  clear hA0 hV0 hval0
  refine (walk5 n0 c0 b0 hb0 a1 zs1 cap1 e0 W hT hs1 hl1).mono fun e W' ⟨he, bel⟩ => ?_
  subst he
  exact ⟨_, rfl, _, _, _, [], _, [.cell 0 0], hW', trodAll_mk1 (shut_bool Tryd.underlying4 _), (trodAll_cons_mk (Below.trod laidOut read24 row24 k0 bel lt0) (trodAll_cons_mk (Below.trod laidOut read29 row29 k1 bel lt1) trodAll_mk0)), vars_read enc (var_below bel hv0) trivial _, bel.frame _, fun h => by cases h⟩
theorem fnExactFirstExtension_holds : Rows.FnExactFirstExtensionSaid :=
  OpenClaim.holds_of_wide 5 Tryd.f5 rfl rfl rfl rfl rfl rfl rfl ⟨rfl, rfl, rfl, rfl, rfl⟩ rfl rfl rfl rfl rfl (by kernel_rfl) Tryd.func5 (by kernel_rfl)
    (of_decide_eq_true (by kernel_rfl)) (by unfold Func.isWrapper; first | (rw [if_pos (by decide +kernel)]; kernel_rfl) | (rw [if_neg (by decide +kernel)]; exact ⟨rfl, rfl⟩))
    (fun os started H enc _ => lifted5 os started H enc)
theorem plain5 (f : FuncId) (fn : Func) (hf : Tryd.pinned.checked.prog.funcNamed "loop.example/g01362/laws.FnExactFirstExtension" = some f) (hfn : Tryd.pinned.checked.prog.funcs[f]? = some fn) :
    true = Tryd.pinned.checked.prog.looks [] ∧ ∀ (j : Nat) t, fn.params[j]? = some t → Tryd.pinned.checked.prog.wantsStandIn t = false := by
  obtain rfl : f = 5 := Option.some.inj ((show Tryd.prog.funcNamed "loop.example/g01362/laws.FnExactFirstExtension" = some 5 by kernel_rfl).symm.trans hf) |>.symm
  obtain rfl : fn = Tryd.f5 := (Option.some.inj (Tryd.func5.symm.trans hfn)).symm
  refine ⟨by kernel_rfl, fun j t ht => ?_⟩
  rw [Tryd.params5] at ht
  have hm : t ∈ [24, 25] := by simpa using Array.mem_of_getElem? ht
  have hall : ([24, 25].all fun u => !Tryd.prog.wantsStandIn u) = true := by kernel_rfl
  exact (show Tryd.prog.wantsStandIn t = false by simpa using List.all_eq_true.1 hall t hm)
theorem fnExactFirstExtension_card : Rows.FnExactFirstExtensionCardSaid :=
  Claim7.holds_tied_plain_at .later [] _ _ _ _ fnExactFirstExtension_holds (fun _ h => by cases h) (by kernel_rfl) (fun _ h => by cases h) fnExactFirstExtension_row_tie rfl ⟨rfl, rfl⟩ (by kernel_rfl) rfl plain5 (by kernel_rfl)
#print axioms fnExactFirstExtension_card
end Go.Proofs.YtckffliiidgilaaDoor
