/- For every argument the law FnExactIsClosed returns true: IsClosed answers as its model does and leaves its lists as they were. The condition is the row's own: the package's one sentinel lies as its initialiser lays it; the card ties that to the program's text. -/
import Derived.Test.YtckffliiidgilaaDoorWit
import Derived.Test.YtckffliiidgilaaDoorTie
import Derived.Test.YtckffliiidgilaaDoorCards
import Derived.Test.YtckffliiidgilaaDoorIcl
namespace Go.Proofs.YtckffliiidgilaaDoor
set_option linter.unusedVariables false
set_option linter.unusedSimpArgs false
open Go Go.RowKit Go.ChangeShapes Go.WideShapes Go.ChangeAt
set_option maxRecDepth 100000 in
set_option maxHeartbeats 2000000 in
theorem walk8 (n k : Int) (bs : List Nat) (hb : Bys bs) (a : Option Addr) (zs : List Int) (cap : Nat) (e0 : Addr) (w : World) (hT : Er w e0) (hs : SlI w a zs) (hl : zs.length ≤ 9223372036854775807) :
    Calls Tryd.prog 8 #[.agg (ccells n k bs).toArray, .slice a zs.length cap] w fun e w' => e = .returned (.bool true) ∧ Below w.heap.size w w' := by
  by_cases hbig0 : 1048576 < zs.length
  · go_enter Tryd.func8, Tryd.ntmps8
    go_wp2
    go_ret
    exact ⟨rfl, (Below.refl _ _).alloc (Nat.le_refl _) _⟩
  have hsm0 : zs.length ≤ 1048576 := by omega
  have HS := hidd (size_c24 n k hb)
  obtain ⟨v, hv⟩ : ∃ q, q = iclV n k bs zs := ⟨_, rfl⟩
  obtain ⟨cd, hcd⟩ : ∃ q, q = iclC n k bs zs := ⟨_, rfl⟩
  have HT := hidd hT
  have Hhs := hidd hs
  have HSP := hidd (fun W (a' : Option Addr) (cap' : Nat) (hs' : SlI W a' zs) => spec31 n k bs hb zs a' cap' W hs' hsm0)
  have HIM := hidd (fun W hE (a' : Option Addr) (cap' : Nat) (hs' : SlI W a' zs) => impl32 n k bs hb zs a' cap' e0 W hs' hsm0 hE)
  rw [← hv, ← hcd] at HSP HIM
  clear hv hcd hT hs
  have hne : (v != v) = false := by simp
  have hne2 : (cd != cd) = false := by simp
  go_enter Tryd.func8, Tryd.ntmps8
  go_wp2_with (refine wpList_load_row rfl 24 (.tmp 2) rfl w.heap.size rfl 24 _ (0,0) _ (Blk.new _ _ _ _ rfl) Tryd.underlying24 rfl HS.out ?_)
  refine (toCol_any n k bs _ hb).mono ?_
  rintro e w1 ⟨rfl, hb1⟩
  have G0 := hidd (And.intro (((Below.refl w.heap.size w).alloc (Nat.le_refl _) (.cells (ccells n k bs).toArray 24)).trans (hb1.mono (by simp))) ((Blk.new w (ccells n k bs).toArray 24 _ rfl).below hb1 (by simp)))
  clear hb1
  go_wp2_with fail
  refine (copy19 zs a cap _ (Hhs.out.below G0.out.1 (Nat.le_refl _)) hsm0).mono ?_
  rintro e w2 ⟨rfl, hk, hb2⟩
  have G1 := hidd (And.intro (G0.out.1.trans (hb2.mono G0.out.1.size)) (And.intro (G0.out.2.below hb2 G0.out.2.lt) (sl_of_blk hk)))
  clear hk hb2
  go_wp2_with fail
  refine (HSP.out _ _ _ G1.out.2.2).mono ?_
  rintro e ws ⟨rfl, hb2⟩
  have GS := hidd (And.intro (G1.out.1.trans (hb2.mono G1.out.1.size)) (G1.out.2.1.below hb2 G1.out.2.1.lt))
  clear hb2
  go_wp2_with fail
  refine (copy19 zs a cap _ (Hhs.out.below GS.out.1 (Nat.le_refl _)) hsm0).mono ?_
  rintro e wc0 ⟨rfl, hk, hb2⟩
  have GC0 := hidd (And.intro (GS.out.1.trans (hb2.mono GS.out.1.size)) (And.intro (GS.out.2.below hb2 GS.out.2.lt) (sl_of_blk hk)))
  clear hk hb2
  go_wp2_with (refine wpList_load_row rfl 24 (.tmp 2) rfl w.heap.size rfl 24 _ (0,0) _ GC0.out.2.1 Tryd.underlying24 rfl HS.out ?_)
  refine (toCol_any n k bs _ hb).mono ?_
  rintro e wt ⟨rfl, hb2⟩
  have GT := hidd (And.intro (GC0.out.1.trans (hb2.mono GC0.out.1.size)) (GC0.out.2.2.below hb2 (Nat.le_refl _)))
  clear hb2
  go_wp2_with fail
  refine (HIM.out _ (HT.out.below GT.out.1 HT.out.lt) _ _ GT.out.2).mono ?_
  rintro e wi ⟨rfl, hb2⟩
  have GI := hidd (And.intro (GT.out.1.trans (hb2.mono GT.out.1.size)) (GT.out.2.below hb2 (Nat.le_refl _)))
  clear hb2
  go_wp2_with fail
  refine (copy19 zs a cap _ (Hhs.out.below GI.out.1 (Nat.le_refl _)) hsm0).mono ?_
  rintro e wx0 ⟨rfl, hk, hb2⟩
  have GX0 := hidd (And.intro (GI.out.1.trans (hb2.mono GI.out.1.size)) (And.intro (GI.out.2.below hb2 (Nat.le_refl _)) (sl_of_blk hk)))
  clear hk hb2
  go_wp2_with fail
  refine (eq22 zs _ _ _ _ _ GX0.out.2.1 GX0.out.2.2 hsm0).mono ?_
  rintro e wy0 ⟨rfl, hb2⟩
  have GE0 := hidd (And.intro (GX0.out.1.trans (hb2.mono GX0.out.1.size)) (GX0.out.2.1.below hb2 (Nat.le_refl _)))
  clear hb2
  go_wp2
  go_ret
  exact ⟨rfl, GE0.out.1⟩
set_option maxRecDepth 100000 in
theorem lifted8 (os : Os) (started : os.Started) (H : Type) (enc : TypeId × Value → H) :
    ReturnsInHanded {} Tryd.checked os 8 .any (fun w args => (Rows.fnExactIsClosedSpec.pre enc Tryd.prog Tryd.f8 [] false w args ∧ laidMetH Tryd.prog Rows.fnExactIsClosedRow.laid w) ∧ sizedMet enc Tryd.prog Tryd.f8 (OpenSpec.ofChange Rows.fnExactIsClosedSpec) false w args) (Rows.fnExactIsClosedSpec.post enc Tryd.prog Tryd.f8 false true false false) := by
  refine returnsInHanded_of_change_and (C := Tryd.checked) (X := fun w _ => laidMetH Tryd.prog Rows.fnExactIsClosedRow.laid w) (fun _ _ _ hh h => h.of_heap hh) own started (by kernel_rfl) Tryd.func8
    (ChangeSpec.witness_at (enc := enc) (C := Tryd.checked) (X := fun w _ => laidMetH Tryd.prog Rows.fnExactIsClosedRow.laid w) false (laidWorld os) #[.agg (ccells 0 0 zbl).toArray, .slice none 0 0] 8 rfl (by kernel_rfl) (by kernel_rfl) (by kernel_rfl) (by kernel_rfl) (by kernel_rfl) (laid_met os _)) ?_
  intro W base args ds gs before hval0 hW hcnd _ hL _
  have hval : ∀ (j : Nat) t v, Tryd.f8.params[j]? = some t → args[j]? = some v → Value.okWide Tryd.prog W .any base t v := hval0
  have hW' := hW
  obtain ⟨p, q, hA0, hV0, rfl, hfz, hnd⟩ := hW
  have hA : DataW.TrodAll enc Tryd.prog W 0 (fun _ => true) true Tryd.f8.params.toList args.toList ds p := hA0
  have hV : DataW.TrodVars enc Tryd.prog W (fun _ => true) ["loop.example/g01362/impl.errNoSizes"] gs q := hV0
  obtain ⟨e0, hT, hv0⟩ := er_of2 hL
  obtain ⟨rfl, rfl⟩ := hV.unique (vars_read enc hv0 trivial _)
  rw [Tryd.params8] at hA hval
  obtain ⟨v0, vs0, d0, ds0, p0, q0, hargs, rfl, rfl, h0, r0⟩ := trodAll_cons hA
  obtain ⟨v1, vs1, d1, ds1, p1, q1, rfl, rfl, rfl, h1, r1⟩ := trodAll_cons r0
  obtain ⟨rfl, rfl, rfl⟩ := trodAll_nil r1
  obtain rfl : args = #[v0, v1] := by cases args; simp_all
  have k0 := h0
  have lt0 := lt_of_trod k0
  obtain ⟨n0, c0, b0, rfl, hb0, _, _⟩ := open_col Tryd.underlying24 cells24 (hval 0 24 v0 rfl rfl) h0
  have k1 := h1
  have lt1 := lt_of_trod k1
  obtain ⟨a1, zs1, cap1, rfl, hs1, hl1, hz1⟩ := open_list (hval 1 25 v1 rfl rfl) h1
  clear hA0 hV0 hval0
  refine (walk8 n0 c0 b0 hb0 a1 zs1 cap1 e0 W hT hs1 hl1).mono fun e W' ⟨he, bel⟩ => ?_
  subst he
  exact ⟨_, rfl, _, _, _, [], _, [.cell 0 0], hW', trodAll_mk1 (shut_bool Tryd.underlying4 _), (trodAll_cons_mk (Below.trod laidOut read24 row24 k0 bel lt0) (trodAll_cons_mk (Below.trod laidOut read29 row29 k1 bel lt1) trodAll_mk0)), vars_read enc (var_below bel hv0) trivial _, bel.frame _, fun h => by cases h⟩
theorem fnExactIsClosed_holds : Rows.FnExactIsClosedSaid :=
  OpenClaim.holds_of_wide 8 Tryd.f8 rfl rfl rfl rfl rfl rfl rfl ⟨rfl, rfl, rfl, rfl, rfl⟩ rfl rfl rfl rfl rfl (by kernel_rfl) Tryd.func8 (by kernel_rfl)
    (of_decide_eq_true (by kernel_rfl)) (by unfold Func.isWrapper; first | (rw [if_pos (by decide +kernel)]; kernel_rfl) | (rw [if_neg (by decide +kernel)]; exact ⟨rfl, rfl⟩))
    (fun os started H enc _ => lifted8 os started H enc)
theorem plain8 (f : FuncId) (fn : Func) (hf : Tryd.pinned.checked.prog.funcNamed "loop.example/g01362/laws.FnExactIsClosed" = some f) (hfn : Tryd.pinned.checked.prog.funcs[f]? = some fn) :
    true = Tryd.pinned.checked.prog.looks [] ∧ ∀ (j : Nat) t, fn.params[j]? = some t → Tryd.pinned.checked.prog.wantsStandIn t = false := by
  obtain rfl : f = 8 := Option.some.inj ((show Tryd.prog.funcNamed "loop.example/g01362/laws.FnExactIsClosed" = some 8 by kernel_rfl).symm.trans hf) |>.symm
  obtain rfl : fn = Tryd.f8 := (Option.some.inj (Tryd.func8.symm.trans hfn)).symm
  refine ⟨by kernel_rfl, fun j t ht => ?_⟩
  rw [Tryd.params8] at ht
  have hm : t ∈ [24, 25] := by simpa using Array.mem_of_getElem? ht
  have hall : ([24, 25].all fun u => !Tryd.prog.wantsStandIn u) = true := by kernel_rfl
  exact (show Tryd.prog.wantsStandIn t = false by simpa using List.all_eq_true.1 hall t hm)
theorem fnExactIsClosed_card : Rows.FnExactIsClosedCardSaid :=
  Claim7.holds_tied_plain_at .later [] _ _ _ _ fnExactIsClosed_holds (fun _ h => by cases h) (by kernel_rfl) (fun _ h => by cases h) fnExactIsClosed_row_tie rfl ⟨rfl, rfl⟩ (by kernel_rfl) rfl plain8 (by kernel_rfl)
#print axioms fnExactIsClosed_card
end Go.Proofs.YtckffliiidgilaaDoor
