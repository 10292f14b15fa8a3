/- For every argument the law FnExactLeadsTo returns true: LeadsTo answers as its model does and leaves the list as it was. No condition beside the row's own. -/
import Derived.Test.YthcfcgknkheleaaGe
import Derived.Test.YthcfcgknkheleaaLdi
import Derived.Deep.RegionHeld2
namespace Go.Proofs.Ythcfcgknkheleaa
set_option linter.unusedVariables false
set_option linter.unusedSimpArgs false
open Go Go.RowKit Go.ChangeShapes Go.WideShapes Go.ChangeAt
set_option maxRecDepth 100000 in
set_option maxHeartbeats 4000000 in
theorem walk3 (n k : Int) (bs : List Nat) (hb : Bys bs) (m l : Int) (cs : List Nat) (hcb : Bys cs) (a : Option Addr) (zs : List Int) (cap : Nat) (w : World) (hs : SlI w a zs) (hl : zs.length ≤ 9223372036854775807) :
    Calls Try.prog 3 #[.agg (ccells n k bs).toArray, .agg (ccells m l cs).toArray, .slice a zs.length cap] w fun e w' => e = .returned (.bool true) ∧ Below w.heap.size w w' := by
  by_cases hbig : 1048576 < zs.length
  · go_enter Try.func3, Try.ntmps3
    go_wp2
    go_ret
    exact ⟨rfl, ((Below.refl w.heap.size w).alloc (Nat.le_refl _) _).alloc (by simp) _⟩
  have hsm : zs.length ≤ 1048576 := by omega
  have HS := hidd (size_c24 n k hb)
  have HT := hidd (size_c24 m l hcb)
  obtain ⟨v, hv⟩ : ∃ q, q = ldV n k bs m l cs zs := ⟨_, rfl⟩
  obtain ⟨cd, hcd⟩ : ∃ q, q = ldC n k bs m l cs zs := ⟨_, rfl⟩
  have HSP := hidd (fun a cap W h => hv ▸ hcd ▸ spec4 n k bs hb m l cs hcb zs a cap W h hl)
  have HIM := hidd (fun a cap W h => hv ▸ hcd ▸ impl7 n k bs hb m l cs hcb zs a cap W h hl)
  clear hv hcd
  have HSL := hidd hs
  clear hs
  obtain ⟨W, hW⟩ : ∃ W, W = (w.alloc (.cells (ccells n k bs).toArray 24)).alloc (.cells (ccells m l cs).toArray 24) := ⟨_, rfl⟩
  have HW := hidd (show Blk W w.heap.size (ccells n k bs).toArray 24 ∧ Blk W (w.heap.size + 1) (ccells m l cs).toArray 24 ∧ Below w.heap.size w W by
    rw [hW]
    exact ⟨(Blk.new _ _ _ _ rfl).alloc _, Blk.new _ _ _ _ (by simp), ((Below.refl w.heap.size w).alloc (Nat.le_refl _) _).alloc (by simp) _⟩)
  have HWE := hidd hW
  clear hW
  go_enter Try.func3, Try.ntmps3
  go_wp2_with fail
  rename_i Q1 K1 hK1
  rw [← HWE.out]
  have HRX := hidd (fun (W' : World) (h : Below W.heap.size W W') => (HW.out.1.below h HW.out.1.lt).range 0 (ccells n k bs) (fun j v hj => by simpa using hj))
  have HRY := hidd (fun (W' : World) (h : Below W.heap.size W W') => (HW.out.2.1.below h HW.out.2.1.lt).range 0 (ccells m l cs) (fun j v hj => by simpa using hj))
  refine wp_region_held_drew (S := fun W' => Below W.heap.size W W') (by kernel_rfl) ?_ (fun hHeld => ?_)
  · exact (Below.refl _ _).drew
  have HC0 := hidd (show Below W.heap.size W W.drew from (Below.refl _ _).drew)
  refine wpAnyH_take (i := 0) (oi := _) (v := _) rfl (by kernel_rfl) (by kernel_rfl) (by kernel_rfl) (fun _ _ _ h => h) (yieldsIf_load_mid (by rfl) _ _ rfl _ _ rfl _ _ (HRX.out) Try.underlying24 rfl (HS.out)) (by assumption) ?_
  simp only [List.getElem_toArray, List.getElem_cons_succ, List.getElem_cons_zero, Act.put, List.setIfInBounds_toArray, List.set_cons_zero, List.set_cons_succ]
  refine wpAnyH_take (i := 2) (oi := _) (v := _) rfl (by kernel_rfl) (by kernel_rfl) (by kernel_rfl) (fun _ _ _ h => h) (yieldsIf_load_mid (by rfl) _ _ rfl _ _ rfl _ _ (HRY.out) Try.underlying24 rfl (HT.out)) (by assumption) ?_
  simp only [List.getElem_toArray, List.getElem_cons_succ, List.getElem_cons_zero, Act.put, List.setIfInBounds_toArray, List.set_cons_zero, List.set_cons_succ]
  refine wpAnyH_take (i := 4) (oi := _) (v := ?_) rfl (by kernel_rfl) (by kernel_rfl) (by kernel_rfl) (fun _ _ _ h => h) (Or.inl ⟨by rfl, ?_⟩) (by assumption) ?_
  rotate_left
  · intro wX hSw; (try dsimp only at hSw); go_simp; first | done | with_reducible rfl
  simp only [List.getElem_toArray, List.getElem_cons_succ, List.getElem_cons_zero, Act.put, List.setIfInBounds_toArray, List.set_cons_zero, List.set_cons_succ]
  refine wpAnyH_ready (rs := [1]) (by kernel_rfl) (by simp) (AllReadyH.cons (o := _) rfl (fun KQ hKQ => ?_) AllReadyH.nil)
  go_simp
  go_wp2_with (refine (toCol_any n k bs _ hb).mono ?_; rintro e wc1 ⟨rfl, hbc1⟩)
  have hS1 := HC0.out.trans (hbc1.mono HC0.out.size)
  refine hKQ.out _ _ ?_ (fun hNext => ?_)
  · exact hS1
  clear hKQ KQ hHeld
  have hHeld := hNext
  clear hNext
  have HC1 := hidd hS1
  clear hS1 hbc1
  refine wpAnyH_ready (rs := [3]) (by kernel_rfl) (by simp) (AllReadyH.cons (o := _) rfl (fun KQ hKQ => ?_) AllReadyH.nil)
  go_simp
  go_wp2_with (refine (toCol_any m l cs _ hcb).mono ?_; rintro e wc2 ⟨rfl, hbc2⟩)
  have hS2 := HC1.out.trans (hbc2.mono HC1.out.size)
  refine hKQ.out _ _ ?_ (fun hNext => ?_)
  · exact hS2
  clear hKQ KQ hHeld
  have hHeld := hNext
  clear hNext
  have HC2 := hidd hS2
  clear hS2 hbc2
  refine wpAnyH_ready (rs := [5]) (by kernel_rfl) (by simp) (AllReadyH.cons (o := _) rfl (fun KQ hKQ => ?_) AllReadyH.nil)
  go_simp
  go_wp2_with (refine (copy19 zs a cap _ (HSL.out.below (HW.out.2.2.trans (HC2.out.mono HW.out.2.2.size)) (Nat.le_refl _)) hsm).mono ?_; rintro e wc3 ⟨rfl, hk3, hbc3⟩)
  have hS3 := HC2.out.trans (hbc3.mono HC2.out.size)
  have HK := hidd (sl_of_blk hk3)
  clear hk3
  refine hKQ.out _ _ ?_ (fun hNext => ?_)
  · exact hS3
  clear hKQ KQ hHeld
  have hHeld := hNext
  clear hNext
  have HC3 := hidd hS3
  clear hS3 hbc3
  refine wpAnyH_ready (rs := [6]) (by kernel_rfl) (by simp) (AllReadyH.cons (o := _) rfl (fun KQ hKQ => ?_) AllReadyH.nil)
  go_simp
  go_wp2_with (refine (HSP.out _ _ _ HK.out).mono ?_; rintro e wc4 ⟨rfl, hbc4⟩)
  have hS4 := HC3.out.trans (hbc4.mono HC3.out.size)
  refine hKQ.out _ _ ?_ (fun hNext => ?_)
  · exact hS4
  clear hKQ KQ hHeld
  have hHeld := hNext
  clear hNext
  have HC4 := hidd hS4
  clear hS4 hbc4
  refine wpAnyH_take (i := 7) (oi := _) (v := ?_) rfl (by kernel_rfl) (by kernel_rfl) (by kernel_rfl) (fun _ _ _ h => h) (Or.inl ⟨by rfl, ?_⟩) (by assumption) ?_
  rotate_left
  · intro wX hSw; (try dsimp only at hSw); go_simp; first | done | with_reducible rfl
  simp only [List.getElem_toArray, List.getElem_cons_succ, List.getElem_cons_zero, Act.put, List.setIfInBounds_toArray, List.set_cons_zero, List.set_cons_succ]
  refine wpAnyH_take (i := 8) (oi := _) (v := ?_) rfl (by kernel_rfl) (by kernel_rfl) (by kernel_rfl) (fun _ _ _ h => h) (Or.inl ⟨by rfl, ?_⟩) (by assumption) ?_
  rotate_left
  · intro wX hSw; (try dsimp only at hSw); go_simp; first | done | with_reducible rfl
  simp only [List.getElem_toArray, List.getElem_cons_succ, List.getElem_cons_zero, Act.put, List.setIfInBounds_toArray, List.set_cons_zero, List.set_cons_succ]
  refine wpAnyH_take (i := 9) (oi := _) (v := ?_) rfl (by kernel_rfl) (by kernel_rfl) (by kernel_rfl) (fun _ _ _ h => h) (Or.inl ⟨by rfl, ?_⟩) (by assumption) ?_
  rotate_left
  · intro wX hSw; (try dsimp only at hSw); go_simp; first | done | with_reducible rfl
  simp only [List.getElem_toArray, List.getElem_cons_succ, List.getElem_cons_zero, Act.put, List.setIfInBounds_toArray, List.set_cons_zero, List.set_cons_succ]
  refine wpAnyH_ready (rs := [10]) (by kernel_rfl) (by simp) (AllReadyH.cons (o := _) rfl (fun KQ hKQ => ?_) AllReadyH.nil)
  go_simp
  refine hKQ.out _ _ ?_ (fun hNext => ?_)
  · exact hHeld
  clear hKQ KQ hHeld
  have hHeld := hNext
  clear hNext
  refine wpAnyH_ready (rs := [11]) (by kernel_rfl) (by simp) (AllReadyH.cons (o := _) rfl (fun KQ hKQ => ?_) AllReadyH.nil)
  go_simp
  refine hKQ.out _ _ ?_ (fun hNext => ?_)
  · exact hHeld
  clear hKQ KQ hHeld
  have hHeld := hNext
  clear hNext
  refine wpAnyH_done (by kernel_rfl) ?_ _
  refine hK1 _ _ ?_
  have F4 := HW.out.2.2.trans (HC4.out.mono HW.out.2.2.size)
  have HF := hidd (And.intro F4 (And.intro (HW.out.1.below HC4.out HW.out.1.lt) (HW.out.2.1.below HC4.out HW.out.2.1.lt)))
  clear F4 hK1 hHeld
  go_wp2_with fail
  refine (copy19 zs a cap _ (HSL.out.below HF.out.1 (Nat.le_refl _)) hsm).mono ?_
  rintro e w4 ⟨rfl, hk4, hb4⟩
  have G4 := hidd (And.intro (HF.out.1.trans (hb4.mono HF.out.1.size)) (And.intro (HF.out.2.1.below hb4 HF.out.2.1.lt) (And.intro (HF.out.2.2.below hb4 HF.out.2.2.lt) hk4)))
  clear hk4 hb4
  go_wp2_with fail
  refine wp_region_quiet_at (fun w' => Below w4.heap.size w4 w') rfl (by kernel_rfl) ((Below.refl _ _).drew) ?_
  refine qs rfl (fun KQ hKQ => ?_)
  apply Exists.intro
  refine ⟨fun w' hw' => ?_, ?_⟩
  · exact quietRow 24 (.tmp 3) rfl w.heap.size rfl 24 _ _ (G4.out.2.1.below hw' G4.out.2.1.lt) Try.underlying24 rfl HS.out
  go_simp
  refine hKQ _ ?_
  clear hKQ KQ
  refine qs rfl (fun KQ hKQ => ?_)
  apply Exists.intro
  refine ⟨fun w' hw' => ?_, ?_⟩
  · go_simp; exact (toCol_any n k bs _ hb).mono fun _ _ h => ⟨h.1, hw'.trans (h.2.mono hw'.size)⟩
  go_simp
  refine hKQ _ ?_
  clear hKQ KQ
  refine qs rfl (fun KQ hKQ => ?_)
  apply Exists.intro
  refine ⟨fun w' hw' => ?_, ?_⟩
  · exact quietRow 24 (.tmp 4) rfl (w.heap.size + 1) rfl 24 _ _ (G4.out.2.2.1.below hw' G4.out.2.2.1.lt) Try.underlying24 rfl HT.out
  go_simp
  refine hKQ _ ?_
  clear hKQ KQ
  refine qs rfl (fun KQ hKQ => ?_)
  apply Exists.intro
  refine ⟨fun w' hw' => ?_, ?_⟩
  · go_simp; exact (toCol_any m l cs _ hcb).mono fun _ _ h => ⟨h.1, hw'.trans (h.2.mono hw'.size)⟩
  go_simp
  refine hKQ _ ?_
  clear hKQ KQ
  refine qs rfl (fun KQ hKQ => ?_)
  apply Exists.intro
  refine ⟨fun w' hw' => ?_, ?_⟩
  · go_simp; exact rfl
  go_simp
  refine hKQ _ ?_
  clear hKQ KQ
  refine qs rfl (fun KQ hKQ => ?_)
  apply Exists.intro
  refine ⟨fun w' hw' => ?_, ?_⟩
  · go_simp; exact (HIM.out _ _ _ (sl_of_blk (G4.out.2.2.2.below hw' G4.out.2.2.2.lt))).mono fun _ _ h => ⟨h.1, hw'.trans (h.2.mono hw'.size)⟩
  go_simp
  refine hKQ _ ?_
  clear hKQ KQ
  refine qs rfl (fun KQ hKQ => ?_)
  apply Exists.intro
  refine ⟨fun w' hw' => ?_, ?_⟩
  · go_simp; exact rfl
  go_simp
  refine hKQ _ ?_
  clear hKQ KQ
  refine qs rfl (fun KQ hKQ => ?_)
  apply Exists.intro
  refine ⟨fun w' hw' => ?_, ?_⟩
  · go_simp; exact rfl
  go_simp
  refine hKQ _ ?_
  clear hKQ KQ
  refine qs rfl (fun KQ hKQ => ?_)
  apply Exists.intro
  refine ⟨fun w' hw' => ?_, ?_⟩
  · go_simp; exact rfl
  go_simp
  refine hKQ _ ?_
  clear hKQ KQ
  refine qs rfl (fun KQ hKQ => ?_)
  apply Exists.intro
  refine ⟨fun w' hw' => ?_, ?_⟩
  · go_simp; exact rfl
  go_simp
  refine hKQ _ ?_
  clear hKQ KQ
  refine qs rfl (fun KQ hKQ => ?_)
  apply Exists.intro
  refine ⟨fun w' hw' => ?_, ?_⟩
  · go_simp; exact rfl
  go_simp
  refine hKQ _ ?_
  clear hKQ KQ
  refine wpQuiet_nil ?_
  intro w5 hw5
  have G5 := hidd (And.intro (G4.out.1.trans (hw5.mono G4.out.1.size)) (G4.out.2.2.2.below hw5 G4.out.2.2.2.lt))
  have hne : (v != v) = false := by simp
  have hne2 : (cd != cd) = false := by simp
  clear hw5
  go_wp2_with fail
  refine (copy19 zs a cap _ (HSL.out.below G5.out.1 (Nat.le_refl _)) hsm).mono ?_
  rintro e w8 ⟨rfl, hk8, hb8⟩
  have G8 := hidd (And.intro (G5.out.1.trans (hb8.mono G5.out.1.size)) (And.intro (sl_of_blk (G5.out.2.below hb8 G5.out.2.lt)) (sl_of_blk hk8)))
  clear hk8 hb8
  go_wp2_with fail
  refine (eq22 zs _ _ _ _ _ G8.out.2.1 G8.out.2.2 hsm).mono ?_
  rintro e w9 ⟨rfl, hb9⟩
  have G9 := hidd (G8.out.1.trans (hb9.mono G8.out.1.size))
  clear hb9
  go_wp2
  go_ret
  exact ⟨rfl, G9.out⟩
set_option maxRecDepth 100000 in
theorem lifted3 (os : Os) (started : os.Started) (H : Type) (enc : TypeId × Value → H) :
    ReturnsInHanded {} Try.checked os 3 .any (Rows.fnExactLeadsToSpec.pre6 enc Try.prog Try.f3 Rows.fnExactLeadsToRow.domain false) (Rows.fnExactLeadsToSpec.post enc Try.prog Try.f3 false true false false) := by
  refine returnsInHanded_of_change (C := Try.checked) own started (by kernel_rfl) Try.func3
    (ChangeSpec.witness6 (enc := enc) (C := Try.checked) false ⟨#[], #[.agg (ccells 0 0 zbl).toArray, .agg (ccells 0 0 zbl).toArray, .slice none 0 0], []⟩ 8 (by kernel_rfl) (by kernel_rfl) (by kernel_rfl) (by kernel_rfl)) ?_
  intro W base args ds gs before hval0 hW hcnd _
  have hval : ∀ (j : Nat) t v, Try.f3.params[j]? = some t → args[j]? = some v → Value.okWide Try.prog W .any base t v := hval0
  have hW' := hW
  obtain ⟨p, q, hA0, hV, rfl, hfz, hnd⟩ := hW
  have hA : DataW.TrodAll enc Try.prog W 0 (fun _ => true) true Try.f3.params.toList args.toList ds p := hA0
  rw [Try.params3] at hA hval
  obtain ⟨v0, vs0, d0, ds0, p0, q0, hargs, rfl, rfl, h0, r0⟩ := trodAll_cons hA
  obtain ⟨v1, vs1, d1, ds1, p1, q1, rfl, rfl, rfl, h1, r1⟩ := trodAll_cons r0
  obtain ⟨v2, vs2, d2, ds2, p2, q2, rfl, rfl, rfl, h2, r2⟩ := trodAll_cons r1
  obtain ⟨rfl, rfl, rfl⟩ := trodAll_nil r2
  obtain rfl : args = #[v0, v1, v2] := by cases args; simp_all
  obtain ⟨rfl, rfl⟩ := trodVars_none hV
  have k0 := h0
  have lt0 := lt_of_trod k0
  obtain ⟨n0, c0, b0, rfl, hb0, _, _⟩ := open_col Try.underlying24 cells24 (hval 0 24 v0 rfl rfl) h0
  have k1 := h1
  have lt1 := lt_of_trod k1
  obtain ⟨n1, c1, b1, rfl, hb1, _, _⟩ := open_col Try.underlying24 cells24 (hval 1 24 v1 rfl rfl) h1
  have k2 := h2
  have lt2 := lt_of_trod k2
  obtain ⟨a2, zs2, cap2, rfl, hs2, hl2, hz2⟩ := open_list (hval 2 25 v2 rfl rfl) h2
  clear hA0 hval0
  refine (walk3 n0 c0 b0 hb0 n1 c1 b1 hb1 a2 zs2 cap2 W hs2 hl2).mono fun e W' ⟨he, bel⟩ => ?_
  subst he
  exact ⟨_, rfl, _, _, _, [], _, [], hW', trodAll_mk1 (shut_bool Try.underlying4 _), (trodAll_cons_mk (Below.trod laidOut read24 row24 k0 bel lt0) (trodAll_cons_mk (Below.trod laidOut read24 row24 k1 bel lt1) (trodAll_cons_mk (Below.trod laidOut read29 row29 k2 bel lt2) trodAll_mk0))), rfl, bel.frame _, fun h => by cases h⟩
theorem fnExactLeadsTo_holds : Rows.FnExactLeadsToSaid :=
  OpenClaim.holds_of_wide 3 Try.f3 rfl rfl rfl rfl rfl rfl rfl ⟨rfl, rfl, rfl, rfl, rfl⟩ rfl rfl rfl rfl rfl (by kernel_rfl) Try.func3 (by kernel_rfl)
    (of_decide_eq_true (by kernel_rfl)) (by unfold Func.isWrapper; first | (rw [if_pos (by decide +kernel)]; kernel_rfl) | (rw [if_neg (by decide +kernel)]; exact ⟨rfl, rfl⟩))
    (fun os started H enc _ => lifted3 os started H enc)
#print axioms fnExactLeadsTo_holds
end Go.Proofs.Ythcfcgknkheleaa
