/- CountAvoiding: what it answers; the model. -/
import Derived.Test.YtckffliiidgilaaDoorNus
namespace Go.Proofs.YtckffliiidgilaaDoor
set_option linter.unusedVariables false
set_option linter.unusedSimpArgs false
open Go Go.RowKit Go.Shelf
theorem wpList_nk {n k : Int} {ops : Array Oper} {rest : List Oper} {o : Oper} {a : Act} {w : World} {Q : Exit → Act → World → Prop} (hg : o.guard = none) (x y : Operand) (ho : o.op = .build 28 #[(0, x), (1, y)])
    (hx : a.eval x = .int .i64 n) (hy : a.eval y = .int .i64 k) (h : wpList Tryd.prog ops Q rest (a.put o.dst (.agg (ccells n k zbl).toArray)) w) : wpList Tryd.prog ops Q (o :: rest) a w := by
  have hbu := built26nk n k
  obtain ⟨D, hD⟩ : ∃ D, D = (ccells n k zbl).toArray := ⟨_, rfl⟩
  rw [← hD] at hbu h
  have e : ((#[(0, x), (1, y)] : Array (Nat × Operand)).map fun (i, x) => (i, a.eval x)).toList = [(0, .int .i64 n), (1, .int .i64 k)] := by simp [hx, hy]
  refine wpList_build hg 28 _ ho ?_ ?_
  · rw [e, hbu]; rfl
  · rw [e, hbu]; exact h
/-- The greatest number of points for so many colours. -/
def gcN (k : Int) : Int := if k = 1 ∨ k = 2 then 6 else if k = 3 then 5 else if k = 4 then 4 else 0
theorem gc63 (k : Int) (w : World) : Calls Tryd.prog 63 #[.int .i64 k] w fun e w' => e = .returned (.int .i64 (gcN k)) ∧ w = w' := by
  by_cases h1 : k = 1
  · subst h1
    go_enter Tryd.func63, Tryd.ntmps63
    go_wp2
    go_ret
    exact ⟨rfl, rfl⟩
  · by_cases h2 : k = 2
    · subst h2
      go_enter Tryd.func63, Tryd.ntmps63
      go_wp2
      go_ret
      exact ⟨rfl, rfl⟩
    · by_cases h3 : k = 3
      · subst h3
        go_enter Tryd.func63, Tryd.ntmps63
        go_wp2
        go_ret
        exact ⟨rfl, rfl⟩
      · by_cases h4 : k = 4
        · subst h4
          go_enter Tryd.func63, Tryd.ntmps63
          go_wp2
          go_ret
          exact ⟨rfl, rfl⟩
        · have e1 : (k == 1) = false := by rw [beq_eq_false_iff_ne]; exact h1
          have e2 : (k == 2) = false := by rw [beq_eq_false_iff_ne]; exact h2
          have e3 : (k == 3) = false := by rw [beq_eq_false_iff_ne]; exact h3
          have e4 : (k == 4) = false := by rw [beq_eq_false_iff_ne]; exact h4
          have hg : gcN k = 0 := by unfold gcN; rw [if_neg (by omega), if_neg h3, if_neg h4]
          rw [hg]
          clear h1 h2 h3 h4 hg
          go_enter Tryd.func63, Tryd.ntmps63
          go_wp2
          go_ret
          exact ⟨rfl, rfl⟩
def caOk (n : Int) (zs : List Int) : Bool := inB n 1 (gcN (zs.length : Int)) && szP zs zs.length
def caC (n : Int) (zs : List Int) : Int := if caOk n zs = true then 0 else 2
def caV (n : Int) (zs : List Int) : Int := if caOk n zs = true then ((gwL zs zs.length n.toNat 1 zbl).length : Int) else 0
theorem ca_bad {n : Int} {zs : List Int} (h : caOk n zs = false) : caV n zs = 0 ∧ caC n zs = 2 := by unfold caV caC; rw [h]; exact ⟨rfl, rfl⟩
theorem ca_good {n : Int} {zs : List Int} (h : caOk n zs = true) : caV n zs = ((gwL zs zs.length n.toNat 1 zbl).length : Int) ∧ caC n zs = 0 := by unfold caV caC; rw [if_pos h, if_pos h]; exact ⟨rfl, rfl⟩
theorem ca_bd {n : Int} {zs : List Int} (h : caOk n zs = true) : 1 ≤ n ∧ n ≤ 6 ∧ 1 ≤ zs.length ∧ zs.length ≤ 4 ∧ szP zs zs.length = true := by
  unfold caOk at h
  rw [Bool.and_eq_true] at h
  have h1 := inB_bd h.1
  have : gcN (zs.length : Int) ≤ 6 ∧ (1 ≤ gcN (zs.length : Int) → 1 ≤ zs.length ∧ zs.length ≤ 4) := by
    unfold gcN
    split
    · exact ⟨by omega, fun _ => by omega⟩
    · split
      · exact ⟨by omega, fun _ => by omega⟩
      · split
        · exact ⟨by omega, fun _ => by omega⟩
        · exact ⟨by omega, fun h => by omega⟩
  exact ⟨h1.1, by omega, (this.2 (by omega)).1, (this.2 (by omega)).2, h.2⟩
theorem isCol_one {k : Int} (h1 : 1 ≤ k) (h2 : k ≤ 4) : isCol 1 k zbl = true := by
  refine isCol_yes ?_ fun j hj => good_hi ?_ ?_
  · unfold shapeB
    simp only [Bool.and_eq_true, decide_eq_true_eq]; omega
  · have e : edg 1 = 0 := by decide
    omega
  · exact (show ∀ j, j < 136 → zbl.getD j 0 = 0 by decide +kernel) j hj
set_option maxRecDepth 100000 in
set_option maxHeartbeats 4000000 in
theorem spec33 (n : Int) (zs : List Int) (a : Option Addr) (cap : Nat) (w : World) (hn0 : -9223372036854775808 ≤ n) (hn1 : n ≤ 9223372036854775807) (hs : SlI w a zs) (hl : zs.length ≤ 1048576) :
    Calls Tryd.prog 33 #[.int .i64 n, .slice a zs.length cap] w fun e w' => e = .returned (.tuple #[.int .i64 (caV n zs), .int .i64 (caC n zs)]) ∧ Below w.heap.size w w' := by
  have HSL := hidd hs
  have HSZ := hidd (fun k W h => sizes60 k zs a cap W h hl)
  obtain ⟨k, hk⟩ : ∃ k : Int, k = (zs.length : Int) := ⟨_, rfl⟩
  obtain ⟨mo, hmo⟩ : ∃ mo : Int, mo = if 2 < k then 8 - k else 6 := ⟨_, rfl⟩
  have hok : caOk n zs = (inB k 1 4 && inB n 1 mo && decide ((if szOk k zs then (0 : Int) else 2) = 0)) := by
    have hso : szOk k zs = szP zs zs.length := by unfold szOk; rw [decide_eq_true hk.symm]; rfl
    unfold caOk
    rw [← hk, hso]
    have hd : decide ((if szP zs zs.length = true then (0 : Int) else 2) = 0) = szP zs zs.length := by
      cases szP zs zs.length <;> rfl
    rw [hd]
    congr 1
    have hk0 : 0 ≤ k := by omega
    unfold gcN
    by_cases h1 : k = 1 ∨ k = 2
    · rw [if_pos h1, hmo, if_neg (by omega), inB_yes (n := k) (by omega) (by omega)]; rfl
    · rw [if_neg h1]
      by_cases h3 : k = 3
      · rw [if_pos h3, hmo, if_pos (by omega), inB_yes (n := k) (by omega) (by omega), h3]; rfl
      · rw [if_neg h3]
        by_cases h4 : k = 4
        · rw [if_pos h4, hmo, if_pos (by omega), inB_yes (n := k) (by omega) (by omega), h4]; rfl
        · rw [if_neg h4, inB_no (n := k) (by omega), inB_no (n := n) (by omega)]; rfl
  subst hk
  have HOK := hidd hok
  have Hz := zero26
  clear hok
  obtain ⟨x1, hx1⟩ : ∃ x1, x1 = inB (zs.length : Int) 1 4 := ⟨_, rfl⟩
  obtain ⟨x2, hx2⟩ : ∃ x2, x2 = inB n 1 mo := ⟨_, rfl⟩
  obtain ⟨x3, hx3⟩ : ∃ x3 : Int, x3 = if szOk (zs.length : Int) zs then 0 else 2 := ⟨_, rfl⟩
  have hz3 : x3 = 0 ∨ x3 = 2 := by rw [hx3]; split <;> simp
  rw [← hx1, ← hx2, ← hx3] at HOK
  have HX1 := hidd (show inB (zs.length : Int) 1 4 = x1 from hx1.symm)
  have HX3 := hidd (show (if szOk (zs.length : Int) zs then (0 : Int) else 2) = x3 from hx3.symm)
  by_cases hk2 : 2 < (zs.length : Int)
  · have hgt : decide ((zs.length : Int) > 2) = true := decide_eq_true hk2
    have hgt2 : decide (2 < (zs.length : Int)) = true := decide_eq_true hk2
    have hmo2 : mo = 8 - (zs.length : Int) := by rw [hmo, if_pos hk2]
    have hw8 : IntKind.i64.wrap (8 - (zs.length : Int)) = 8 - (zs.length : Int) := IntWalk.i64_in _ (by omega)
    have hw9 : wrap64 (8 - (zs.length : Int)) = 8 - (zs.length : Int) := IntWalk.wrap64_in _ ⟨by omega, by omega⟩
    have HX2 := hidd (show inB n 1 (8 - (zs.length : Int)) = x2 from by rw [hx2, hmo2])
    clear hx1 hx2 hx3 hmo hmo2 hk2
    cases x1 with
    | false =>
      have HV := hidd (ca_bad (n := n) (zs := zs) (by rw [HOK.out]; rfl))
      clear hz3
      go_enter Tryd.func33, Tryd.ntmps33
      go_wp2_with (first
        | (go_at_call 59; refine (in49 _ _ _ _).mono ?_; rintro e w' ⟨rfl, rfl⟩; first | rw [HX1.out] | rw [HX2.out])
        | (go_at_call 60; refine (HSZ.out _ _ HSL.out).mono ?_; rintro e w' ⟨rfl, rfl⟩; rw [HX3.out]))
      go_ret2
      exact ⟨by rw [HV.out.1, HV.out.2]; rfl, Below.refl _ _⟩

    | true =>
      cases x2 with
      | false =>
        have HV := hidd (ca_bad (n := n) (zs := zs) (by rw [HOK.out]; rfl))
        clear hz3
        go_enter Tryd.func33, Tryd.ntmps33
        go_wp2_with (first
          | (go_at_call 59; refine (in49 _ _ _ _).mono ?_; rintro e w' ⟨rfl, rfl⟩; first | rw [HX1.out] | rw [HX2.out])
          | (go_at_call 60; refine (HSZ.out _ _ HSL.out).mono ?_; rintro e w' ⟨rfl, rfl⟩; rw [HX3.out]))
        go_ret2
        exact ⟨by rw [HV.out.1, HV.out.2]; rfl, Below.refl _ _⟩

      | true =>
        rcases hz3 with rfl | rfl
        · have hOKt : caOk n zs = true := by rw [HOK.out]; rfl
          obtain ⟨b1, b2, b3, b4, b5⟩ := ca_bd hOKt
          have HV := hidd (ca_good hOKt)
          obtain ⟨N, rfl⟩ := Int.eq_ofNat_of_zero_le (show 0 ≤ n by omega)
          generalize hK : zs.length = K at *
          have HAV := hidd (fun W h => avoids44 1 K zbl zbl_bys zs a cap W h hK (by omega) (by omega) b4 b5)
          have HNU := hidd (fun (h2 : no1 zs K) W h => num61 zs K a cap N hK b3 b4 h2 b5 (by omega) (N - 1) 1 zbl W (by omega) (by omega) zbl_bys h)
          have HN1 := hidd (fun (h : avP 1 zbl zs K = true) => no1_of_av (by omega) b5 h)
          have hgw : gwL zs K (N : Int).toNat 1 zbl = if avP 1 zbl zs K = true then grL zs K (N - 1) 1 zbl else [] := rfl
          have HGW := hidd hgw
          have HSC := hidd (show (Tryd.prog.info? 28).map (·.size) = some (ccells (1 : Int) (K : Int) zbl).toArray.size ∧ (ccells 0 0 zbl).toArray.size = (ccells (1 : Int) (K : Int) zbl).toArray.size ∧ (ccells (1 : Int) (K : Int) zbl).toArray.all (·.oneCell') = true from ⟨size_c26 1 (K : Int) zbl_bys, rfl, ccells_one _ _ _⟩)
          obtain ⟨C, hC⟩ : ∃ C, C = (ccells (1 : Int) (K : Int) zbl).toArray := ⟨_, rfl⟩
          have HC := hidd hC
          have hC1 : (ccells ((1 : Nat) : Int) (K : Int) zbl).toArray = C := hC.symm
          rw [hC1] at HAV HNU
          rw [← hC] at HSC
          clear hC hC1 b1 b2 hgw hOKt hK
          have HB1 := hidd (Blk.new w (ccells 0 0 zbl).toArray 28 _ rfl)
          obtain ⟨W2, hW2⟩ : ∃ W2, W2 = (w.alloc (.cells (ccells 0 0 zbl).toArray 28)).setRow w.heap.size C := ⟨_, rfl⟩
          have G := hidd (show Blk W2 w.heap.size C 28 ∧ Below w.heap.size w W2 from by
            rw [hW2]; exact ⟨(Blk.new _ _ _ _ rfl).rowSame _, below_setRow ((Below.refl _ _).alloc (Nat.le_refl _) _) (Nat.le_refl _) _⟩)
          go_enter Tryd.func33, Tryd.ntmps33
          go_upto_region 7 with (first
            | (go_at_call 59; refine (in49 _ _ _ _).mono ?_; rintro e w' ⟨rfl, rfl⟩; first | rw [HX1.out] | rw [HX2.out])
            | (go_at_call 60; refine (HSZ.out _ _ HSL.out).mono ?_; rintro e w' ⟨rfl, rfl⟩; rw [HX3.out])
            | (refine wpList_nk rfl _ _ rfl rfl rfl ?_; rw [← HC.out])
            | (refine wpList_store_row rfl 28 (.tmp 8) (.tmp 31) rfl w.heap.size _ rfl rfl 28 _ HB1.out HSC.out.1 HSC.out.2.1 HSC.out.2.2 ?_; rw [← hW2]; clear hW2))
          go_wp2_with (refine wpList_load_row rfl 28 (.tmp 8) rfl w.heap.size rfl 28 _ (0,0) _ G.out.1 Tryd.underlying28 rfl HSC.out.1 ?_)
          refine (HAV.out _ (HSL.out.below G.out.2 (Nat.le_refl _))).mono ?_
          rintro e w3 ⟨rfl, hb3⟩
          have G3 := hidd (And.intro (G.out.1.below hb3 G.out.1.lt) (G.out.2.trans (hb3.mono G.out.2.size)))
          clear hb3

          obtain ⟨av, hav⟩ : ∃ av, av = avP 1 zbl zs K := ⟨_, rfl⟩
          rw [← hav] at HGW HN1 ⊢
          cases av with
          | false =>
            clear hav
            go_wp2_with fail
            go_ret2
            exact ⟨by rw [HV.out.1, HV.out.2, HGW.out]; rfl, G3.out.2⟩
          | true =>
            have HNV := hidd (HNU.out (HN1.out rfl))
            clear hav HNU
            go_wp2_with (refine wpList_load_row rfl 28 (.tmp 8) rfl w.heap.size rfl 28 _ (0,0) _ G3.out.1 Tryd.underlying28 rfl HSC.out.1 ?_)
            refine (HNV.out _ (HSL.out.below G3.out.2 (Nat.le_refl _))).mono ?_
            rintro e w4 ⟨rfl, hb4⟩
            have G4 := hidd (G3.out.2.trans (hb4.mono G3.out.2.size))
            clear hb4
            go_wp2_with fail
            go_ret2
            exact ⟨by rw [HV.out.1, HV.out.2, HGW.out]; rfl, G4.out⟩
        · have HV := hidd (ca_bad (n := n) (zs := zs) (by rw [HOK.out]; rfl))
          go_enter Tryd.func33, Tryd.ntmps33
          go_wp2_with (first
            | (go_at_call 59; refine (in49 _ _ _ _).mono ?_; rintro e w' ⟨rfl, rfl⟩; first | rw [HX1.out] | rw [HX2.out])
            | (go_at_call 60; refine (HSZ.out _ _ HSL.out).mono ?_; rintro e w' ⟨rfl, rfl⟩; rw [HX3.out]))
          go_ret2
          exact ⟨by rw [HV.out.1, HV.out.2]; rfl, Below.refl _ _⟩

  · have hgt : decide ((zs.length : Int) > 2) = false := decide_eq_false hk2
    have hgt2 : decide (2 < (zs.length : Int)) = false := decide_eq_false hk2
    have hmo2 : mo = 6 := by rw [hmo, if_neg hk2]
    have HX2 := hidd (show inB n 1 6 = x2 from by rw [hx2, hmo2])
    clear hx1 hx2 hx3 hmo hmo2 hk2
    cases x1 with
    | false =>
      have HV := hidd (ca_bad (n := n) (zs := zs) (by rw [HOK.out]; rfl))
      clear hz3
      go_enter Tryd.func33, Tryd.ntmps33
      go_wp2_with (first
        | (go_at_call 59; refine (in49 _ _ _ _).mono ?_; rintro e w' ⟨rfl, rfl⟩; first | rw [HX1.out] | rw [HX2.out])
        | (go_at_call 60; refine (HSZ.out _ _ HSL.out).mono ?_; rintro e w' ⟨rfl, rfl⟩; rw [HX3.out]))
      go_ret2
      exact ⟨by rw [HV.out.1, HV.out.2]; rfl, Below.refl _ _⟩

    | true =>
      cases x2 with
      | false =>
        have HV := hidd (ca_bad (n := n) (zs := zs) (by rw [HOK.out]; rfl))
        clear hz3
        go_enter Tryd.func33, Tryd.ntmps33
        go_wp2_with (first
          | (go_at_call 59; refine (in49 _ _ _ _).mono ?_; rintro e w' ⟨rfl, rfl⟩; first | rw [HX1.out] | rw [HX2.out])
          | (go_at_call 60; refine (HSZ.out _ _ HSL.out).mono ?_; rintro e w' ⟨rfl, rfl⟩; rw [HX3.out]))
        go_ret2
        exact ⟨by rw [HV.out.1, HV.out.2]; rfl, Below.refl _ _⟩

      | true =>
        rcases hz3 with rfl | rfl
        · have hOKt : caOk n zs = true := by rw [HOK.out]; rfl
          obtain ⟨b1, b2, b3, b4, b5⟩ := ca_bd hOKt
          have HV := hidd (ca_good hOKt)
          obtain ⟨N, rfl⟩ := Int.eq_ofNat_of_zero_le (show 0 ≤ n by omega)
          generalize hK : zs.length = K at *
          have HAV := hidd (fun W h => avoids44 1 K zbl zbl_bys zs a cap W h hK (by omega) (by omega) b4 b5)
          have HNU := hidd (fun (h2 : no1 zs K) W h => num61 zs K a cap N hK b3 b4 h2 b5 (by omega) (N - 1) 1 zbl W (by omega) (by omega) zbl_bys h)
          have HN1 := hidd (fun (h : avP 1 zbl zs K = true) => no1_of_av (by omega) b5 h)
          have hgw : gwL zs K (N : Int).toNat 1 zbl = if avP 1 zbl zs K = true then grL zs K (N - 1) 1 zbl else [] := rfl
          have HGW := hidd hgw
          have HSC := hidd (show (Tryd.prog.info? 28).map (·.size) = some (ccells (1 : Int) (K : Int) zbl).toArray.size ∧ (ccells 0 0 zbl).toArray.size = (ccells (1 : Int) (K : Int) zbl).toArray.size ∧ (ccells (1 : Int) (K : Int) zbl).toArray.all (·.oneCell') = true from ⟨size_c26 1 (K : Int) zbl_bys, rfl, ccells_one _ _ _⟩)
          obtain ⟨C, hC⟩ : ∃ C, C = (ccells (1 : Int) (K : Int) zbl).toArray := ⟨_, rfl⟩
          have HC := hidd hC
          have hC1 : (ccells ((1 : Nat) : Int) (K : Int) zbl).toArray = C := hC.symm
          rw [hC1] at HAV HNU
          rw [← hC] at HSC
          clear hC hC1 b1 b2 hgw hOKt hK
          have HB1 := hidd (Blk.new w (ccells 0 0 zbl).toArray 28 _ rfl)
          obtain ⟨W2, hW2⟩ : ∃ W2, W2 = (w.alloc (.cells (ccells 0 0 zbl).toArray 28)).setRow w.heap.size C := ⟨_, rfl⟩
          have G := hidd (show Blk W2 w.heap.size C 28 ∧ Below w.heap.size w W2 from by
            rw [hW2]; exact ⟨(Blk.new _ _ _ _ rfl).rowSame _, below_setRow ((Below.refl _ _).alloc (Nat.le_refl _) _) (Nat.le_refl _) _⟩)
          go_enter Tryd.func33, Tryd.ntmps33
          go_upto_region 7 with (first
            | (go_at_call 59; refine (in49 _ _ _ _).mono ?_; rintro e w' ⟨rfl, rfl⟩; first | rw [HX1.out] | rw [HX2.out])
            | (go_at_call 60; refine (HSZ.out _ _ HSL.out).mono ?_; rintro e w' ⟨rfl, rfl⟩; rw [HX3.out])
            | (refine wpList_nk rfl _ _ rfl rfl rfl ?_; rw [← HC.out])
            | (refine wpList_store_row rfl 28 (.tmp 8) (.tmp 31) rfl w.heap.size _ rfl rfl 28 _ HB1.out HSC.out.1 HSC.out.2.1 HSC.out.2.2 ?_; rw [← hW2]; clear hW2))
          go_wp2_with (refine wpList_load_row rfl 28 (.tmp 8) rfl w.heap.size rfl 28 _ (0,0) _ G.out.1 Tryd.underlying28 rfl HSC.out.1 ?_)
          refine (HAV.out _ (HSL.out.below G.out.2 (Nat.le_refl _))).mono ?_
          rintro e w3 ⟨rfl, hb3⟩
          have G3 := hidd (And.intro (G.out.1.below hb3 G.out.1.lt) (G.out.2.trans (hb3.mono G.out.2.size)))
          clear hb3

          obtain ⟨av, hav⟩ : ∃ av, av = avP 1 zbl zs K := ⟨_, rfl⟩
          rw [← hav] at HGW HN1 ⊢
          cases av with
          | false =>
            clear hav
            go_wp2_with fail
            go_ret2
            exact ⟨by rw [HV.out.1, HV.out.2, HGW.out]; rfl, G3.out.2⟩
          | true =>
            have HNV := hidd (HNU.out (HN1.out rfl))
            clear hav HNU
            go_wp2_with (refine wpList_load_row rfl 28 (.tmp 8) rfl w.heap.size rfl 28 _ (0,0) _ G3.out.1 Tryd.underlying28 rfl HSC.out.1 ?_)
            refine (HNV.out _ (HSL.out.below G3.out.2 (Nat.le_refl _))).mono ?_
            rintro e w4 ⟨rfl, hb4⟩
            have G4 := hidd (G3.out.2.trans (hb4.mono G3.out.2.size))
            clear hb4
            go_wp2_with fail
            go_ret2
            exact ⟨by rw [HV.out.1, HV.out.2, HGW.out]; rfl, G4.out⟩
        · have HV := hidd (ca_bad (n := n) (zs := zs) (by rw [HOK.out]; rfl))
          go_enter Tryd.func33, Tryd.ntmps33
          go_wp2_with (first
            | (go_at_call 59; refine (in49 _ _ _ _).mono ?_; rintro e w' ⟨rfl, rfl⟩; first | rw [HX1.out] | rw [HX2.out])
            | (go_at_call 60; refine (HSZ.out _ _ HSL.out).mono ?_; rintro e w' ⟨rfl, rfl⟩; rw [HX3.out]))
          go_ret2
          exact ⟨by rw [HV.out.1, HV.out.2]; rfl, Below.refl _ _⟩

end Go.Proofs.YtckffliiidgilaaDoor
