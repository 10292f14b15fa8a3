/- For every struct of two numbers and 136 bytes and every list of numbers the law FnExactRenumberPoints returns true: RenumberPoints answers as its model does and leaves its list as it was. No condition beside the row's own. -/
import Derived.Test.YtpjegmmichjlbaaKeep
import Derived.Test.YtpjegmmichjlbaaRenIm
import Derived.Test.YtpjegmmichjlbaaRenSp
namespace Go.Proofs.Ytpjegmmichjlbaa
set_option linter.unusedVariables false
set_option linter.unusedSimpArgs false
open Go Go.RowKit Go.ChangeShapes Go.WideShapes Go.ChangeAt
set_option maxRecDepth 100000 in
set_option maxHeartbeats 1000000 in
theorem walk9 (n k : Int) (bs : List Nat) (hb : Bys bs) (a : Option Addr) (zs : List Int) (cap : Nat) (w : World) (hs : SlI w a zs) (hl : zs.length ≤ 9223372036854775807) :
    Calls Try.prog 9 #[.agg (ccells n k bs).toArray, .slice a zs.length cap] w fun e w' => e = .returned (.bool true) ∧ Below w.heap.size w w' := by
  by_cases hbig : 1048576 < zs.length
  · go_enter Try.func9, Try.ntmps9
    go_wp2
    go_ret
    exact ⟨rfl, (Below.refl _ _).alloc (Nat.le_refl _) _⟩
  · have hsm : zs.length ≤ 1048576 := by omega
    have Hz := zero26
    have HS := hidd (size_c24 n k hb)
    obtain ⟨rn, hrn⟩ : ∃ v, v = rnN n k bs zs := ⟨_, rfl⟩
    obtain ⟨rk, hrk⟩ : ∃ v, v = rnK n k bs zs := ⟨_, rfl⟩
    obtain ⟨rb, hrb⟩ : ∃ v, v = rnBB n k bs zs := ⟨_, rfl⟩
    obtain ⟨cd, hcd⟩ : ∃ v, v = rnCode n k bs zs := ⟨_, rfl⟩
    have hbr : Bys rb := by rw [hrb]; exact rnBB_bys n k hb zs
    have HV := hidd (show rnOut n k bs zs = .tuple #[.agg (ccells rn rk rb).toArray, .int .i64 cd] by rw [hrn, hrk, hrb, hcd]; rfl)
    have HSR := hidd (size_c26 rn rk hbr)
    have HOR := hidd (size_cc 0 0 rn rk zbl_bys hbr)
    have HAR := hidd (ccells_one rn rk rb)
    have HSL := hidd hs
    clear hrn hrk hrb hcd hs
    go_enter Try.func9, Try.ntmps9
    go_wp2_with (refine wpList_load_row rfl 27 (.tmp 2) rfl w.heap.size rfl 27 _ (0,0) _ (Blk.new _ _ _ _ rfl) Try.underlying27 rfl HS.out ?_)
    refine (toCol_any n k bs _ hb).mono ?_
    rintro e w1 ⟨rfl, hb1⟩
    have b1 := ((Below.refl w.heap.size w).alloc (Nat.le_refl _) (.cells (ccells n k bs).toArray 27)).trans (hb1.mono (by simp))
    have c1 := (Blk.new w (ccells n k bs).toArray 27 _ rfl).below hb1 (by simp)
    have G1 := hidd (And.intro b1 c1)
    clear hb1 b1 c1
    go_wp2_with fail
    refine (copy19 zs a cap _ (HSL.out.below G1.out.1 (Nat.le_refl _)) hsm).mono ?_
    rintro e w2 ⟨rfl, hk2, hb2⟩
    have G2 := hidd (And.intro (G1.out.1.trans (hb2.mono G1.out.1.size)) (And.intro (G1.out.2.below hb2 G1.out.2.lt) (sl_of_blk hk2)))
    clear hk2 hb2
    go_wp2_with fail
    refine (spec31 n k bs hb zs _ _ _ G2.out.2.2 hl).mono ?_
    rintro e w3 ⟨rfl, hb3⟩
    rw [HV.out]
    have b3 := G2.out.1.trans (hb3.mono G2.out.1.size)
    have c3 := G2.out.2.1.below hb3 G2.out.2.1.lt
    have G3 := hidd (kept_row (D := (ccells rn rk rb).toArray) c3 b3 (ccells 0 0 zbl).toArray)
    clear hb3 b3 c3
    go_wp2_with (first
      | (refine wpList_store_row rfl 29 (.tmp 5) (.tmp 19) rfl w3.heap.size _ rfl rfl 29 _ (Blk.new _ _ _ _ rfl) HSR.out HOR.out HAR.out ?_))
    refine (copy19b zs a cap _ (w3.heap.size + 1) (by simp) (HSL.out.below G3.out.2.2 (Nat.le_refl _)) hsm).mono ?_
    rintro e w4 ⟨rfl, hk4, hb4⟩
    have G4 := hidd (And.intro (G3.out.2.2.trans (hb4.mono G3.out.2.2.size)) (And.intro (G3.out.1.below hb4 G3.out.1.lt) (And.intro (G3.out.2.1.below hb4 G3.out.2.1.lt) hk4)))
    clear hk4 hb4
    go_wp2_with (first
      | (refine wpList_load_row rfl 27 (.tmp 2) rfl w.heap.size rfl 27 _ (0,0) _ G4.out.2.1 Try.underlying27 rfl HS.out ?_))
    refine (toCol_any n k bs _ hb).mono ?_
    rintro e w5 ⟨rfl, hb5⟩
    have G5 := hidd (And.intro (G4.out.1.trans (hb5.mono G4.out.1.size)) (And.intro (G4.out.2.2.1.below hb5 G4.out.2.2.1.lt) (G4.out.2.2.2.below hb5 G4.out.2.2.2.lt)))
    clear hb5
    go_wp2_with fail
    refine (impl32r n k bs hb zs _ _ _ (sl_of_blk G5.out.2.2) hl).mono ?_
    rintro e w6 ⟨rfl, hb6⟩
    rw [HV.out]
    have b6 := G5.out.1.trans (hb6.mono G5.out.1.size)
    have c6 := G5.out.2.1.below hb6 G5.out.2.1.lt
    have x6 := G5.out.2.2.below hb6 G5.out.2.2.lt
    have G6 := hidd (And.intro (kept_row (D := (ccells rn rk rb).toArray) c6 b6 (ccells 0 0 zbl).toArray) (kept_more (D := (ccells rn rk rb).toArray) x6 (ccells 0 0 zbl).toArray))
    clear hb6 b6 c6 x6
    go_wp2_with (first
      | (refine wpList_store_row rfl 29 (.tmp 8) (.tmp 28) rfl w6.heap.size _ rfl rfl 29 _ (Blk.new _ _ _ _ rfl) HSR.out HOR.out HAR.out ?_)
      | (refine wpList_load_row rfl 29 (.tmp 8) rfl w6.heap.size rfl 29 _ (0,0) _ G6.out.1.2.1 Try.underlying29 rfl HSR.out ?_)
      | (refine wpList_load_row rfl 29 (.tmp 5) rfl w3.heap.size rfl 29 _ (0,0) _ G6.out.1.1 Try.underlying29 rfl HSR.out ?_))
    refine (eqCol_same rn rk rb hbr _).mono ?_
    rintro e w7 ⟨rfl, hb7⟩
    have G7 := hidd (And.intro (G6.out.1.2.2.trans (hb7.mono G6.out.1.2.2.size)) (G6.out.2.below hb7 G6.out.2.lt))
    have hne : (cd != cd) = false := by simp
    clear hb7
    go_wp2_with fail
    refine (copy19 zs a cap _ (HSL.out.below G7.out.1 (Nat.le_refl _)) hsm).mono ?_
    rintro e w8 ⟨rfl, hk8, hb8⟩
    have G8 := hidd (And.intro (G7.out.1.trans (hb8.mono G7.out.1.size)) (And.intro (sl_of_blk (G7.out.2.below hb8 G7.out.2.lt)) (sl_of_blk hk8)))
    clear hk8 hb8
    go_wp2_with fail
    refine (eq22 zs _ _ _ _ _ G8.out.2.1 G8.out.2.2 hsm).mono ?_
    rintro e w9 ⟨rfl, hb9⟩
    have G9 := hidd (G8.out.1.trans (hb9.mono G8.out.1.size))
    clear hb9
    go_wp2
    go_ret
    exact ⟨rfl, G9.out⟩
set_option maxRecDepth 100000 in
theorem lifted9 (os : Os) (started : os.Started) (H : Type) (enc : TypeId × Value → H) :
    ReturnsInHanded {} Try.checked os 9 .any (Rows.fnExactRenumberPointsSpec.pre6 enc Try.prog Try.f9 Rows.fnExactRenumberPointsRow.domain false) (Rows.fnExactRenumberPointsSpec.post enc Try.prog Try.f9 false true false false) := by
  refine returnsInHanded_of_change (C := Try.checked) own started (by kernel_rfl) Try.func9
    (ChangeSpec.witness6 (enc := enc) (C := Try.checked) false ⟨#[], #[.agg (ccells 0 0 zbl).toArray, .slice none 0 0], []⟩ 8 (by kernel_rfl) (by kernel_rfl) (by kernel_rfl) (by kernel_rfl)) ?_
  intro W base args ds gs before hval0 hW hcnd _
  have hval : ∀ (j : Nat) t v, Try.f9.params[j]? = some t → args[j]? = some v → Value.okWide Try.prog W .any base t v := hval0
  have hW' := hW
  obtain ⟨p, q, hA0, hV, rfl, hfz, hnd⟩ := hW
  have hA : DataW.TrodAll enc Try.prog W 0 (fun _ => true) true Try.f9.params.toList args.toList ds p := hA0
  rw [Try.params9] at hA hval
  obtain ⟨v0, vs0, d0, ds0, p0, q0, hargs, rfl, rfl, h0, r0⟩ := trodAll_cons hA
  obtain ⟨v1, vs1, d1, ds1, p1, q1, rfl, rfl, rfl, h1, r1⟩ := trodAll_cons r0
  obtain ⟨rfl, rfl, rfl⟩ := trodAll_nil r1
  obtain rfl : args = #[v0, v1] := by cases args; simp_all
  obtain ⟨rfl, rfl⟩ := trodVars_none hV
  have k0 := h0
  have lt0 := lt_of_trod k0
  obtain ⟨n0, c0, b0, rfl, hb0, _, _⟩ := open_col Try.underlying27 cells24 (hval 0 27 v0 rfl rfl) h0
  have k1 := h1
  have lt1 := lt_of_trod k1
  obtain ⟨a1, zs1, cap1, rfl, hs1, hl1, hz1⟩ := open_list (hval 1 38 v1 rfl rfl) h1
  clear hA0 hval0
  refine (walk9 n0 c0 b0 hb0 a1 zs1 cap1 W hs1 hl1).mono fun e W' ⟨he, bel⟩ => ?_
  subst he
  exact ⟨_, rfl, _, _, _, [], _, [], hW', trodAll_mk1 (shut_bool Try.underlying4 _), (trodAll_cons_mk (Below.trod laidOut read24 row24 k0 bel lt0) (trodAll_cons_mk (Below.trod laidOut read29 row29 k1 bel lt1) trodAll_mk0)), rfl, bel.frame _, fun h => by cases h⟩
theorem fnExactRenumberPoints_holds : Rows.FnExactRenumberPointsSaid :=
  OpenClaim.holds_of_wide 9 Try.f9 rfl rfl rfl rfl rfl rfl rfl ⟨rfl, rfl, rfl, rfl, rfl⟩ rfl rfl rfl rfl rfl (by kernel_rfl) Try.func9 (by kernel_rfl)
    (of_decide_eq_true (by kernel_rfl)) (by unfold Func.isWrapper; first | (rw [if_pos (by decide +kernel)]; kernel_rfl) | (rw [if_neg (by decide +kernel)]; exact ⟨rfl, rfl⟩))
    (fun os started H enc _ => lifted9 os started H enc)
#print axioms fnExactRenumberPoints_holds
end Go.Proofs.Ytpjegmmichjlbaa
