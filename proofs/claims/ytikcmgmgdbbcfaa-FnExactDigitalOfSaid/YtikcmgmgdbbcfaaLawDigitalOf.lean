/- For all numbers and every list of numbers the law FnExactDigitalOf returns true: DigitalOf answers as its model does and leaves its list as it was. No condition beside the row's own. -/
import Derived.Test.YtikcmgmgdbbcfaaKeep
import Derived.Test.YtikcmgmgdbbcfaaDigOf
namespace Go.Proofs.Ytikcmgmgdbbcfaa
set_option linter.unusedVariables false
set_option linter.unusedSimpArgs false
open Go Go.RowKit Go.ChangeShapes Go.WideShapes Go.ChangeAt
set_option maxRecDepth 100000 in
set_option maxHeartbeats 1000000 in
theorem walk4 (n : Int) (x1 : -9223372036854775808 ≤ n) (y1 : n ≤ 9223372036854775807) (k : Int) (x2 : -9223372036854775808 ≤ k) (y2 : k ≤ 9223372036854775807) (a : Option Addr) (zs : List Int) (cap : Nat) (w : World) (hs : SlI w a zs) (hl : zs.length ≤ 9223372036854775807) :
    Calls Try.prog 4 #[.int .i64 n, .int .i64 k, .slice a zs.length cap] w fun e w' => e = .returned (.bool true) ∧ Below w.heap.size w w' := by
  by_cases hbig : 1048576 < zs.length
  · go_enter Try.func4, Try.ntmps4
    go_wp2
    go_ret
    exact ⟨rfl, Below.refl _ _⟩
  · have hsm : zs.length ≤ 1048576 := by omega
    have Hz := zero26
    obtain ⟨rn, hrn⟩ : ∃ v, v = dgiN n k zs := ⟨_, rfl⟩
    obtain ⟨rk, hrk⟩ : ∃ v, v = dgiK n k zs := ⟨_, rfl⟩
    obtain ⟨rb, hrb⟩ : ∃ v, v = dgiB n k zs := ⟨_, rfl⟩
    obtain ⟨cd, hcd⟩ : ∃ v, v = dgiCode n k zs := ⟨_, rfl⟩
    have hbr : Bys rb := by rw [hrb]; exact dgiB_bys n k zs
    have HV := hidd (show dgiOut n k zs = .tuple #[.agg (ccells rn rk rb).toArray, .int .i64 cd] by rw [hrn, hrk, hrb, hcd]; rfl)
    have HSR := hidd (size_c26 rn rk hbr)
    have HOR := hidd (size_cc 0 0 rn rk zbl_bys hbr)
    have HAR := hidd (ccells_one rn rk rb)
    have HSL := hidd hs
    clear hrn hrk hrb hcd hs
    go_enter Try.func4, Try.ntmps4
    go_wp2_with fail
    refine (copy19 zs a cap _ HSL.out hsm).mono ?_
    rintro e w2 ⟨rfl, hk2, hb2⟩
    have G2 := hidd (And.intro hb2 (sl_of_blk hk2))
    clear hk2 hb2
    go_wp2_with fail
    refine (spec19d n k zs _ _ _ G2.out.2 hl).mono ?_
    rintro e w3 ⟨rfl, hb3⟩
    rw [HV.out]
    have b3 := G2.out.1.trans (hb3.mono G2.out.1.size)
    have G3 := hidd (show Blk ((w3.alloc (.cells (ccells 0 0 zbl).toArray 25)).setRow w3.heap.size (ccells rn rk rb).toArray) w3.heap.size (ccells rn rk rb).toArray 25 ∧ Below w.heap.size w ((w3.alloc (.cells (ccells 0 0 zbl).toArray 25)).setRow w3.heap.size (ccells rn rk rb).toArray) from ⟨(Blk.new _ _ _ _ rfl).rowSame _, below_setRow (b3.alloc b3.size _) b3.size _⟩)
    clear hb3 b3
    go_wp2_with (first
      | (refine wpList_store_row rfl 25 (.tmp 7) (.tmp 21) rfl w3.heap.size _ rfl rfl 25 _ (Blk.new _ _ _ _ rfl) HSR.out HOR.out HAR.out ?_))
    refine (copy19b zs a cap _ (w3.heap.size + 1) (by simp) (HSL.out.below G3.out.2 (Nat.le_refl _)) hsm).mono ?_
    rintro e w4 ⟨rfl, hk4, hb4⟩
    have G4 := hidd (And.intro (G3.out.2.trans (hb4.mono G3.out.2.size)) (And.intro (G3.out.1.below hb4 G3.out.1.lt) hk4))
    clear hk4 hb4
    go_wp2_with fail
    refine (impl20d n k zs _ _ _ (sl_of_blk G4.out.2.2) hl).mono ?_
    rintro e w6 ⟨rfl, hb6⟩
    rw [HV.out]
    have b6 := G4.out.1.trans (hb6.mono G4.out.1.size)
    have c6 := G4.out.2.1.below hb6 G4.out.2.1.lt
    have x6 := G4.out.2.2.below hb6 G4.out.2.2.lt
    have G6 := hidd (And.intro (kept_row (D := (ccells rn rk rb).toArray) c6 b6 (ccells 0 0 zbl).toArray) (kept_more (D := (ccells rn rk rb).toArray) x6 (ccells 0 0 zbl).toArray))
    clear hb6 b6 c6 x6
    go_wp2_with (first
      | (refine wpList_store_row rfl 25 (.tmp 10) (.tmp 30) rfl w6.heap.size _ rfl rfl 25 _ (Blk.new _ _ _ _ rfl) HSR.out HOR.out HAR.out ?_)
      | (refine wpList_load_row rfl 25 (.tmp 10) rfl w6.heap.size rfl 25 _ (0,0) _ G6.out.1.2.1 Try.underlying25 rfl HSR.out ?_)
      | (refine wpList_load_row rfl 25 (.tmp 7) rfl w3.heap.size rfl 25 _ (0,0) _ G6.out.1.1 Try.underlying25 rfl HSR.out ?_))
    refine (eqCol_same rn rk rb hbr _).mono ?_
    rintro e w7 ⟨rfl, hb7⟩
    have G7 := hidd (And.intro (G6.out.1.2.2.trans (hb7.mono G6.out.1.2.2.size)) (G6.out.2.below hb7 G6.out.2.lt))
    have hne : (cd != cd) = false := by simp
    clear hb7
    go_wp2_with fail
    refine (copy19 zs a cap _ (HSL.out.below G7.out.1 (Nat.le_refl _)) hsm).mono ?_
    rintro e w8 ⟨rfl, hk8, hb8⟩
    have G8 := hidd (And.intro (G7.out.1.trans (hb8.mono G7.out.1.size)) (And.intro (sl_of_blk (G7.out.2.below hb8 G7.out.2.lt)) (sl_of_blk hk8)))
    clear hk8 hb8
    go_wp2_with fail
    refine (eq22 zs _ _ _ _ _ G8.out.2.1 G8.out.2.2 hsm).mono ?_
    rintro e w9 ⟨rfl, hb9⟩
    have G9 := hidd (G8.out.1.trans (hb9.mono G8.out.1.size))
    clear hb9
    go_wp2
    go_ret
    exact ⟨rfl, G9.out⟩
set_option maxRecDepth 100000 in
theorem lifted4 (os : Os) (started : os.Started) (H : Type) (enc : TypeId × Value → H) :
    ReturnsInHanded {} Try.checked os 4 .any (Rows.fnExactDigitalOfSpec.pre6 enc Try.prog Try.f4 Rows.fnExactDigitalOfRow.domain false) (Rows.fnExactDigitalOfSpec.post enc Try.prog Try.f4 false true false false) := by
  refine returnsInHanded_of_change (C := Try.checked) own started (by kernel_rfl) Try.func4
    (ChangeSpec.witness6 (enc := enc) (C := Try.checked) false ⟨#[], #[.int .i64 0, .int .i64 0, .slice none 0 0], []⟩ 8 (by kernel_rfl) (by kernel_rfl) (by kernel_rfl) (by kernel_rfl)) ?_
  intro W base args ds gs before hval0 hW hcnd _
  have hval : ∀ (j : Nat) t v, Try.f4.params[j]? = some t → args[j]? = some v → Value.okWide Try.prog W .any base t v := hval0
  have hW' := hW
  obtain ⟨p, q, hA0, hV, rfl, hfz, hnd⟩ := hW
  have hA : DataW.TrodAll enc Try.prog W 0 (fun _ => true) true Try.f4.params.toList args.toList ds p := hA0
  rw [Try.params4] at hA hval
  obtain ⟨v0, vs0, d0, ds0, p0, q0, hargs, rfl, rfl, h0, r0⟩ := trodAll_cons hA
  obtain ⟨v1, vs1, d1, ds1, p1, q1, rfl, rfl, rfl, h1, r1⟩ := trodAll_cons r0
  obtain ⟨v2, vs2, d2, ds2, p2, q2, rfl, rfl, rfl, h2, r2⟩ := trodAll_cons r1
  obtain ⟨rfl, rfl, rfl⟩ := trodAll_nil r2
  obtain rfl : args = #[v0, v1, v2] := by cases args; simp_all
  obtain ⟨rfl, rfl⟩ := trodVars_none hV
  have k0 := h0
  have lt0 := lt_of_trod k0
  obtain ⟨a0, rfl, x0, y0⟩ := open_num (hval 0 2 v0 rfl rfl) h0
  have k1 := h1
  have lt1 := lt_of_trod k1
  obtain ⟨a1, rfl, x1, y1⟩ := open_num (hval 1 2 v1 rfl rfl) h1
  have k2 := h2
  have lt2 := lt_of_trod k2
  obtain ⟨a2, zs2, cap2, rfl, hs2, hl2, hz2⟩ := open_list (hval 2 22 v2 rfl rfl) h2
  clear hA0 hval0
  refine (walk4 a0 x0 y0 a1 x1 y1 a2 zs2 cap2 W hs2 hl2).mono fun e W' ⟨he, bel⟩ => ?_
  subst he
  exact ⟨_, rfl, _, _, _, [], _, [], hW', trodAll_mk1 (shut_bool Try.underlying4 _), (trodAll_cons_mk (Below.trod laidOut read2 row2 k0 bel lt0) (trodAll_cons_mk (Below.trod laidOut read2 row2 k1 bel lt1) (trodAll_cons_mk (Below.trod laidOut read29 row29 k2 bel lt2) trodAll_mk0))), rfl, bel.frame _, fun h => by cases h⟩
theorem fnExactDigitalOf_holds : Rows.FnExactDigitalOfSaid :=
  OpenClaim.holds_of_wide 4 Try.f4 rfl rfl rfl rfl rfl rfl rfl ⟨rfl, rfl, rfl, rfl, rfl⟩ rfl rfl rfl rfl rfl (by kernel_rfl) Try.func4 (by kernel_rfl)
    (of_decide_eq_true (by kernel_rfl)) (by unfold Func.isWrapper; first | (rw [if_pos (by decide +kernel)]; kernel_rfl) | (rw [if_neg (by decide +kernel)]; exact ⟨rfl, rfl⟩))
    (fun os started H enc _ => lifted4 os started H enc)
#print axioms fnExactDigitalOf_holds
end Go.Proofs.Ytikcmgmgdbbcfaa
