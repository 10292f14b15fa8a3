/- BySquares: the program and its model. -/
import Derived.Test.YtikcmgmgdbbcfaaSq
namespace Go.Proofs.Ytikcmgmgdbbcfaa
set_option linter.unusedVariables false
set_option linter.unusedSimpArgs false
open Go Go.RowKit Go.Shelf
set_option maxRecDepth 100000 in
set_option maxHeartbeats 4000000 in
theorem spec26q (p : Int) (w : World) :
    Calls Try.prog 26 #[.int .i64 p] w fun e w' => e = .returned (bqOut p) ∧ Below w.heap.size w w' := by
  have Hz := zero26
  have HZS := hidd size_z26
  have HZ1 := hidd (ccells_one 0 0 zbl)
  have hb0 : Below w.heap.size w (w.alloc (.cells (ccells 0 0 zbl).toArray 25)) := (Below.refl _ _).alloc (Nat.le_refl _) _
  have hB0 := Blk.new w (ccells 0 0 zbl).toArray 25 _ rfl
  have G := hidd (And.intro (hB0.rowSame (ccells 0 0 zbl).toArray) (below_setRow hb0 (Nat.le_refl _) (ccells 0 0 zbl).toArray))
  have HB0 := hidd (And.intro hB0 hb0)
  clear hB0 hb0
  by_cases hp : bqOk p
  · have hq : sqP p.toNat := by rcases hp with rfl | rfl | rfl <;> simp [sqP]
    have hpn : ((p.toNat : Nat) : Int) = p := by rcases hp with rfl | rfl | rfl <;> rfl
    have H := hidd (bqOut_good hp)
    have hp17 : 5 ≤ p.toNat ∧ p.toNat ≤ 17 := by rcases hp with rfl | rfl | rfl <;> decide
    obtain ⟨PB, hPB⟩ : ∃ PB, PB = paintB p.toNat (dfR (sqL p.toNat (p.toNat - 1))) := ⟨_, rfl⟩
    have HPB := hidd (show Bys PB by rw [hPB]; exact paintB_bys (dfR_bd _))
    have HPS := hidd (size_c26 p 2 HPB.out)
    have HPO := hidd (size_cc 0 0 p 2 zbl_bys HPB.out)
    have HPA := hidd (ccells_one p 2 PB)
    have HC := hidd (fun W => squares65 p.toNat W hq)
    rw [hpn] at HC
    rw [← hPB] at H HC
    clear hq hpn hPB hp17
    have hcs : ((p != 5) = false) ∨ ((p != 5) = true ∧ (p != 13) = false) ∨ ((p != 5) = true ∧ (p != 13) = true ∧ (p != 17) = false) := by rcases hp with rfl | rfl | rfl <;> decide
    clear hp
    rcases hcs with z1 | ⟨z1, z2⟩ | ⟨z1, z2, z3⟩
    · go_enter Try.func26, Try.ntmps26
      go_wp2_with fail
      refine (HC.out _).mono ?_
      rintro e w2 ⟨rfl, hb2⟩
      have z2 := HB0.out.1.below hb2 HB0.out.1.lt
      have b2 := HB0.out.2.trans (hb2.mono HB0.out.2.size)
      have R := hidd (And.intro z2 (And.intro (z2.rowSame (ccells p 2 PB).toArray) (below_setRow b2 (g := w.heap.size) (Nat.le_refl _) (ccells p 2 PB).toArray)))
      clear hb2 z2 b2
      go_wp2_with (refine wpList_store_row rfl 25 (.tmp 2) (.tmp 16) rfl w.heap.size _ rfl rfl 25 _ R.out.1 HPS.out HPO.out HPA.out ?_)
      exact ret_col rfl HPB.out rfl R.out.2.1 rfl rfl ⟨by rw [H.out]; rfl, R.out.2.2⟩
    · go_enter Try.func26, Try.ntmps26
      go_wp2_with fail
      refine (HC.out _).mono ?_
      rintro e w2 ⟨rfl, hb2⟩
      have z2 := HB0.out.1.below hb2 HB0.out.1.lt
      have b2 := HB0.out.2.trans (hb2.mono HB0.out.2.size)
      have R := hidd (And.intro z2 (And.intro (z2.rowSame (ccells p 2 PB).toArray) (below_setRow b2 (g := w.heap.size) (Nat.le_refl _) (ccells p 2 PB).toArray)))
      clear hb2 z2 b2
      go_wp2_with (refine wpList_store_row rfl 25 (.tmp 2) (.tmp 16) rfl w.heap.size _ rfl rfl 25 _ R.out.1 HPS.out HPO.out HPA.out ?_)
      exact ret_col rfl HPB.out rfl R.out.2.1 rfl rfl ⟨by rw [H.out]; rfl, R.out.2.2⟩
    · go_enter Try.func26, Try.ntmps26
      go_wp2_with fail
      refine (HC.out _).mono ?_
      rintro e w2 ⟨rfl, hb2⟩
      have z2 := HB0.out.1.below hb2 HB0.out.1.lt
      have b2 := HB0.out.2.trans (hb2.mono HB0.out.2.size)
      have R := hidd (And.intro z2 (And.intro (z2.rowSame (ccells p 2 PB).toArray) (below_setRow b2 (g := w.heap.size) (Nat.le_refl _) (ccells p 2 PB).toArray)))
      clear hb2 z2 b2
      go_wp2_with (refine wpList_store_row rfl 25 (.tmp 2) (.tmp 16) rfl w.heap.size _ rfl rfl 25 _ R.out.1 HPS.out HPO.out HPA.out ?_)
      exact ret_col rfl HPB.out rfl R.out.2.1 rfl rfl ⟨by rw [H.out]; rfl, R.out.2.2⟩
  · have H := hidd (bqOut_bad hp)
    have z1 : (p != 5) = true := by rw [bne_iff_ne]; intro h; exact hp (.inl h)
    have z2 : (p != 13) = true := by rw [bne_iff_ne]; intro h; exact hp (.inr (.inl h))
    have z3 : (p != 17) = true := by rw [bne_iff_ne]; intro h; exact hp (.inr (.inr h))
    clear hp
    go_enter Try.func26, Try.ntmps26
    go_wp2_with (first
      | (refine wpList_zero26 rfl rfl ?_)
      | (refine wpList_store_row rfl 25 (.tmp 2) (.tmp 14) rfl w.heap.size _ rfl rfl 25 _ HB0.out.1 HZS.out rfl HZ1.out ?_))
    exact ret_col rfl zbl_bys rfl G.out.1 rfl rfl ⟨by rw [H.out]; rfl, G.out.2⟩
set_option maxRecDepth 100000 in
set_option maxHeartbeats 4000000 in
theorem impl27q (p : Int) (w : World) :
    Calls Try.prog 27 #[.int .i64 p] w fun e w' => e = .returned (bqOut p) ∧ Below w.heap.size w w' := by
  have Hz := zero26
  have HZS := hidd size_z26
  have HZ1 := hidd (ccells_one 0 0 zbl)
  have hb0 : Below w.heap.size w (w.alloc (.cells (ccells 0 0 zbl).toArray 25)) := (Below.refl _ _).alloc (Nat.le_refl _) _
  have hB0 := Blk.new w (ccells 0 0 zbl).toArray 25 _ rfl
  have G := hidd (And.intro (hB0.rowSame (ccells 0 0 zbl).toArray) (below_setRow hb0 (Nat.le_refl _) (ccells 0 0 zbl).toArray))
  have HB0 := hidd (And.intro hB0 hb0)
  clear hB0 hb0
  by_cases hp : bqOk p
  · have hq : sqP p.toNat := by rcases hp with rfl | rfl | rfl <;> simp [sqP]
    have hpn : ((p.toNat : Nat) : Int) = p := by rcases hp with rfl | rfl | rfl <;> rfl
    have H := hidd (bqOut_good hp)
    have hp17 : 5 ≤ p.toNat ∧ p.toNat ≤ 17 := by rcases hp with rfl | rfl | rfl <;> decide
    obtain ⟨PB, hPB⟩ : ∃ PB, PB = paintB p.toNat (dfR (sqL p.toNat (p.toNat - 1))) := ⟨_, rfl⟩
    have HPB := hidd (show Bys PB by rw [hPB]; exact paintB_bys (dfR_bd _))
    have HPS := hidd (size_c26 p 2 HPB.out)
    have HPO := hidd (size_cc 0 0 p 2 zbl_bys HPB.out)
    have HPA := hidd (ccells_one p 2 PB)
    obtain ⟨P, hPe⟩ : ∃ P, P = p.toNat := ⟨_, rfl⟩
    rw [← hPe] at hPB H hpn hp17
    obtain ⟨hP5, hP17⟩ := hp17
    have HC := hidd (fun a cap W hW => diff66 P (sqL P (P - 1)) a cap W hW (by rw [sqL_len]; omega) (by omega) hP17)
    rw [sqL_len, hpn, ← hPB] at HC
    rw [← hPB] at H
    have hz2 : (p == 0) = false := by rw [beq_eq_false_iff_ne]; omega
    obtain ⟨t0, hi2, hz0, hz1, hz3⟩ := info_parts info2
    have HIF := hidd (And.intro hi2 (And.intro hz0 (And.intro hz1 hz3)))
    have hcs : ((p == 5) = true) ∨ ((p == 5) = false ∧ (p == 13) = true) ∨ ((p == 5) = false ∧ (p == 13) = false ∧ (p == 17) = true) := by rcases hp with rfl | rfl | rfl <;> decide
    have HPN := hidd hpn.symm
    have hpI : p = (P : Int) := hpn.symm
    clear hq hPB hPe hp hi2 hz0 hz1 hz3 hpn
    rcases hcs with z1 | ⟨z1, z2⟩ | ⟨z1, z2, z3⟩
    · have hq5 : 5 ≤ p ∧ p ≤ 17 := by omega
      obtain ⟨q5, q17⟩ := hq5
      clear hpI
      go_enter Try.func27, Try.ntmps27
      go_wp2_with fail
      go_loopw [4, 5] (fun v e wr => ∃ j : Nat, j ≤ P - 1 ∧ e = .int .i64 ((j : Int) + 1) ∧ RelSq (sqL P j) w v wr) (fun _ e _ => P - (intOf e).toNat)
      case atStart => exact ⟨0, by omega, rfl, HB0.out.1, ⟨rfl, .inl ⟨rfl, rfl⟩⟩, HB0.out.2⟩
      case round =>
        obtain ⟨j, hj, rfl, HR⟩ := hrel
        have HK := hidd HR
        clear HR
        by_cases hlt : j < P - 1
        · have hjp : (j : Int) + 1 < p := by have := HPN.out; omega
          have hr := sq_rng (i := j + 1) (P := P) (by omega) hP17
          rw [Int.natCast_add] at hr
          obtain ⟨m0, m1⟩ := hr
          simp only [Int.cast_ofNat_Int] at m0 m1
          have hown := HK.out.2.1
          have hlen := sqL_len P j
          have hsz := HK.out.2.2.size
          have hszC := HK.out.1.lt
          have HSN := hidd (sqL_snoc P j)
          obtain ⟨v, hv⟩ : ∃ v : Int, v = (((j + 1) * (j + 1) % P : Nat) : Int) := ⟨_, rfl⟩
          rw [← hv] at HSN
          have hmod : (((j : Int) + 1) * ((j : Int) + 1)) % p = v := by rw [hv, HPN.out]; simp
          clear hv
          go_wp2_with (at_builtin; refine wpList_append_own _ rfl _ _ 22 rfl (w.heap.size + 1) 2 t0 (.int .i64 0) 1 8 Try.underlying22 HIF.out.1 HIF.out.2.1 HIF.out.2.2.1 HIF.out.2.2.2 rfl (by decide) _ _ _ rfl (hown.alloc _) ⟨wr.heap.size, 0, none⟩ 1 1 [.int .i64 v] rfl rfl ?c1 ?c2 ?c3 ?c4 ?c5 ?_)
          case c1 => rw [← hmod]; exact one_new _ _ _
          case c2 => intro u hu; simp at hu; subst hu; rfl
          case c3 => unfold maxLen; omega
          case c4 => omega
          case c5 => simp; omega
          intro v' w2 hown' hgrow _
          have K3 := hidd (show RelSq (sqL P (j + 1)) w v' w2 from ⟨HK.out.1.below (grown_step hown hgrow (by omega)) (by omega), by rw [HSN.out, icells_app, List.length_append, sqL_len]; exact hown', HK.out.2.2.trans ((grown_step hown hgrow (by omega)).mono (by omega))⟩)
          clear hown' hgrow hown
          go_wp2
          go_roundw
          case rel => exact ⟨j + 1, by omega, by go_num, K3.out⟩
          case measure => simp [intOf]; omega
        · have hje : j = P - 1 := by omega
          have hdi : decide ((j : Int) + 1 < p) = false := by have := HPN.out; simp; omega
          subst hje
          obtain ⟨a, cap, rfl, ho⟩ := own_list HK.out.2.1
          have K := hidd (And.intro HK.out.1 (And.intro ho.sl HK.out.2.2))
          have HLN := hidd (sqL_len P (P - 1))
          clear HK ho
          rw [HLN.out]
          go_wp2_with fail
          refine (HC.out a cap _ K.out.2.1).mono ?_
          rintro e w2 ⟨rfl, hb2⟩
          have zz2 := K.out.1.below hb2 K.out.1.lt
          have b2 := K.out.2.2.trans (hb2.mono K.out.2.2.size)
          have R := hidd (And.intro zz2 (And.intro (zz2.rowSame (ccells p 2 PB).toArray) (below_setRow b2 (g := w.heap.size) (Nat.le_refl _) (ccells p 2 PB).toArray)))
          clear hb2 zz2 b2
          go_wp2_with (refine wpList_store_row rfl 25 (.tmp 2) (.tmp 27) rfl w.heap.size _ rfl rfl 25 _ R.out.1 HPS.out HPO.out HPA.out ?_)
          exact ret_col rfl HPB.out rfl R.out.2.1 rfl rfl ⟨by rw [H.out]; rfl, R.out.2.2⟩
    · have hq5 : 5 ≤ p ∧ p ≤ 17 := by omega
      obtain ⟨q5, q17⟩ := hq5
      clear hpI
      go_enter Try.func27, Try.ntmps27
      go_wp2_with fail
      go_loopw [4, 5] (fun v e wr => ∃ j : Nat, j ≤ P - 1 ∧ e = .int .i64 ((j : Int) + 1) ∧ RelSq (sqL P j) w v wr) (fun _ e _ => P - (intOf e).toNat)
      case atStart => exact ⟨0, by omega, rfl, HB0.out.1, ⟨rfl, .inl ⟨rfl, rfl⟩⟩, HB0.out.2⟩
      case round =>
        obtain ⟨j, hj, rfl, HR⟩ := hrel
        have HK := hidd HR
        clear HR
        by_cases hlt : j < P - 1
        · have hjp : (j : Int) + 1 < p := by have := HPN.out; omega
          have hr := sq_rng (i := j + 1) (P := P) (by omega) hP17
          rw [Int.natCast_add] at hr
          obtain ⟨m0, m1⟩ := hr
          simp only [Int.cast_ofNat_Int] at m0 m1
          have hown := HK.out.2.1
          have hlen := sqL_len P j
          have hsz := HK.out.2.2.size
          have hszC := HK.out.1.lt
          have HSN := hidd (sqL_snoc P j)
          obtain ⟨v, hv⟩ : ∃ v : Int, v = (((j + 1) * (j + 1) % P : Nat) : Int) := ⟨_, rfl⟩
          rw [← hv] at HSN
          have hmod : (((j : Int) + 1) * ((j : Int) + 1)) % p = v := by rw [hv, HPN.out]; simp
          clear hv
          go_wp2_with (at_builtin; refine wpList_append_own _ rfl _ _ 22 rfl (w.heap.size + 1) 2 t0 (.int .i64 0) 1 8 Try.underlying22 HIF.out.1 HIF.out.2.1 HIF.out.2.2.1 HIF.out.2.2.2 rfl (by decide) _ _ _ rfl (hown.alloc _) ⟨wr.heap.size, 0, none⟩ 1 1 [.int .i64 v] rfl rfl ?c1 ?c2 ?c3 ?c4 ?c5 ?_)
          case c1 => rw [← hmod]; exact one_new _ _ _
          case c2 => intro u hu; simp at hu; subst hu; rfl
          case c3 => unfold maxLen; omega
          case c4 => omega
          case c5 => simp; omega
          intro v' w2 hown' hgrow _
          have K3 := hidd (show RelSq (sqL P (j + 1)) w v' w2 from ⟨HK.out.1.below (grown_step hown hgrow (by omega)) (by omega), by rw [HSN.out, icells_app, List.length_append, sqL_len]; exact hown', HK.out.2.2.trans ((grown_step hown hgrow (by omega)).mono (by omega))⟩)
          clear hown' hgrow hown
          go_wp2
          go_roundw
          case rel => exact ⟨j + 1, by omega, by go_num, K3.out⟩
          case measure => simp [intOf]; omega
        · have hje : j = P - 1 := by omega
          have hdi : decide ((j : Int) + 1 < p) = false := by have := HPN.out; simp; omega
          subst hje
          obtain ⟨a, cap, rfl, ho⟩ := own_list HK.out.2.1
          have K := hidd (And.intro HK.out.1 (And.intro ho.sl HK.out.2.2))
          have HLN := hidd (sqL_len P (P - 1))
          clear HK ho
          rw [HLN.out]
          go_wp2_with fail
          refine (HC.out a cap _ K.out.2.1).mono ?_
          rintro e w2 ⟨rfl, hb2⟩
          have zz2 := K.out.1.below hb2 K.out.1.lt
          have b2 := K.out.2.2.trans (hb2.mono K.out.2.2.size)
          have R := hidd (And.intro zz2 (And.intro (zz2.rowSame (ccells p 2 PB).toArray) (below_setRow b2 (g := w.heap.size) (Nat.le_refl _) (ccells p 2 PB).toArray)))
          clear hb2 zz2 b2
          go_wp2_with (refine wpList_store_row rfl 25 (.tmp 2) (.tmp 27) rfl w.heap.size _ rfl rfl 25 _ R.out.1 HPS.out HPO.out HPA.out ?_)
          exact ret_col rfl HPB.out rfl R.out.2.1 rfl rfl ⟨by rw [H.out]; rfl, R.out.2.2⟩
    · have hq5 : 5 ≤ p ∧ p ≤ 17 := by omega
      obtain ⟨q5, q17⟩ := hq5
      clear hpI
      go_enter Try.func27, Try.ntmps27
      go_wp2_with fail
      go_loopw [4, 5] (fun v e wr => ∃ j : Nat, j ≤ P - 1 ∧ e = .int .i64 ((j : Int) + 1) ∧ RelSq (sqL P j) w v wr) (fun _ e _ => P - (intOf e).toNat)
      case atStart => exact ⟨0, by omega, rfl, HB0.out.1, ⟨rfl, .inl ⟨rfl, rfl⟩⟩, HB0.out.2⟩
      case round =>
        obtain ⟨j, hj, rfl, HR⟩ := hrel
        have HK := hidd HR
        clear HR
        by_cases hlt : j < P - 1
        · have hjp : (j : Int) + 1 < p := by have := HPN.out; omega
          have hr := sq_rng (i := j + 1) (P := P) (by omega) hP17
          rw [Int.natCast_add] at hr
          obtain ⟨m0, m1⟩ := hr
          simp only [Int.cast_ofNat_Int] at m0 m1
          have hown := HK.out.2.1
          have hlen := sqL_len P j
          have hsz := HK.out.2.2.size
          have hszC := HK.out.1.lt
          have HSN := hidd (sqL_snoc P j)
          obtain ⟨v, hv⟩ : ∃ v : Int, v = (((j + 1) * (j + 1) % P : Nat) : Int) := ⟨_, rfl⟩
          rw [← hv] at HSN
          have hmod : (((j : Int) + 1) * ((j : Int) + 1)) % p = v := by rw [hv, HPN.out]; simp
          clear hv
          go_wp2_with (at_builtin; refine wpList_append_own _ rfl _ _ 22 rfl (w.heap.size + 1) 2 t0 (.int .i64 0) 1 8 Try.underlying22 HIF.out.1 HIF.out.2.1 HIF.out.2.2.1 HIF.out.2.2.2 rfl (by decide) _ _ _ rfl (hown.alloc _) ⟨wr.heap.size, 0, none⟩ 1 1 [.int .i64 v] rfl rfl ?c1 ?c2 ?c3 ?c4 ?c5 ?_)
          case c1 => rw [← hmod]; exact one_new _ _ _
          case c2 => intro u hu; simp at hu; subst hu; rfl
          case c3 => unfold maxLen; omega
          case c4 => omega
          case c5 => simp; omega
          intro v' w2 hown' hgrow _
          have K3 := hidd (show RelSq (sqL P (j + 1)) w v' w2 from ⟨HK.out.1.below (grown_step hown hgrow (by omega)) (by omega), by rw [HSN.out, icells_app, List.length_append, sqL_len]; exact hown', HK.out.2.2.trans ((grown_step hown hgrow (by omega)).mono (by omega))⟩)
          clear hown' hgrow hown
          go_wp2
          go_roundw
          case rel => exact ⟨j + 1, by omega, by go_num, K3.out⟩
          case measure => simp [intOf]; omega
        · have hje : j = P - 1 := by omega
          have hdi : decide ((j : Int) + 1 < p) = false := by have := HPN.out; simp; omega
          subst hje
          obtain ⟨a, cap, rfl, ho⟩ := own_list HK.out.2.1
          have K := hidd (And.intro HK.out.1 (And.intro ho.sl HK.out.2.2))
          have HLN := hidd (sqL_len P (P - 1))
          clear HK ho
          rw [HLN.out]
          go_wp2_with fail
          refine (HC.out a cap _ K.out.2.1).mono ?_
          rintro e w2 ⟨rfl, hb2⟩
          have zz2 := K.out.1.below hb2 K.out.1.lt
          have b2 := K.out.2.2.trans (hb2.mono K.out.2.2.size)
          have R := hidd (And.intro zz2 (And.intro (zz2.rowSame (ccells p 2 PB).toArray) (below_setRow b2 (g := w.heap.size) (Nat.le_refl _) (ccells p 2 PB).toArray)))
          clear hb2 zz2 b2
          go_wp2_with (refine wpList_store_row rfl 25 (.tmp 2) (.tmp 27) rfl w.heap.size _ rfl rfl 25 _ R.out.1 HPS.out HPO.out HPA.out ?_)
          exact ret_col rfl HPB.out rfl R.out.2.1 rfl rfl ⟨by rw [H.out]; rfl, R.out.2.2⟩
  · have H := hidd (bqOut_bad hp)
    have z1 : (p == 5) = false := by rw [beq_eq_false_iff_ne]; intro h; exact hp (.inl h)
    have z2 : (p == 13) = false := by rw [beq_eq_false_iff_ne]; intro h; exact hp (.inr (.inl h))
    have z3 : (p == 17) = false := by rw [beq_eq_false_iff_ne]; intro h; exact hp (.inr (.inr h))
    clear hp
    go_enter Try.func27, Try.ntmps27
    go_wp2_with (first
      | (refine wpList_zero26 rfl rfl ?_)
      | (refine wpList_store_row rfl 25 (.tmp 2) (.tmp 7) rfl w.heap.size _ rfl rfl 25 _ HB0.out.1 HZS.out rfl HZ1.out ?_))
    exact ret_col rfl zbl_bys rfl G.out.1 rfl rfl ⟨by rw [H.out]; rfl, G.out.2⟩
end Go.Proofs.Ytikcmgmgdbbcfaa
