/- TakePoint: its model, and what both answer. -/
import Derived.Test.YtpjegmmichjlbaaTakeIm
namespace Go.Proofs.Ytpjegmmichjlbaa
set_option linter.unusedVariables false
set_option linter.unusedSimpArgs false
open Go Go.RowKit
set_option maxRecDepth 100000 in
set_option maxHeartbeats 2000000 in
theorem take48 (n k : Int) (bs : List Nat) (hb : Bys bs) (p : Int) (w : World) (hi : isCol n k bs = true) (hp : belowB p n = true) (hn1 : n ≠ 1) :
    Calls Try.prog 48 #[.agg (ccells n k bs).toArray, .int .i64 p] w fun e w' => e = .returned (.agg (ccells (poN n k bs (tkZ n p)) (poK n k bs (tkZ n p)) (poB n k bs (tkZ n p))).toArray) ∧ Below w.heap.size w w' := by
  have HS := hidd (size_c26 n k hb)
  have HC0 := hidd (show (ccells n k bs).toArray[0]? = some (.int .i64 n) from rfl)
  obtain ⟨n1, n2, k1, k2⟩ := isCol_bd hi
  have HF := hidd (tk_fit hi hp hn1)
  have HC := hidd (poCode_0 hi (tk_fit hi hp hn1))
  have hpb := inB_bd hp
  obtain ⟨N, rfl⟩ := Int.eq_ofNat_of_zero_le (show 0 ≤ n by omega)
  have HZN := hidd (show tkZ (N : Int) p = nbK (othB p) N from rfl)
  have HPB := hidd (poB_bys (N : Int) k hb (tkZ (N : Int) p))
  have HPS := hidd (size_c26 (poN (N : Int) k bs (tkZ (N : Int) p)) (poK (N : Int) k bs (tkZ (N : Int) p)) HPB.out)
  have HPO := hidd (size_cc 0 0 (poN (N : Int) k bs (tkZ (N : Int) p)) (poK (N : Int) k bs (tkZ (N : Int) p)) zbl_bys HPB.out)
  have HPA := hidd (ccells_one (poN (N : Int) k bs (tkZ (N : Int) p)) (poK (N : Int) k bs (tkZ (N : Int) p)) (poB (N : Int) k bs (tkZ (N : Int) p)))
  have HE := hidd (show (ccells (poN (N : Int) k bs (tkZ (N : Int) p)) (poK (N : Int) k bs (tkZ (N : Int) p)) (poB (N : Int) k bs (tkZ (N : Int) p))) = ccells ((tkZ (N : Int) p).length : Int) k (paintB (tkZ (N : Int) p).length (fun lo hi => colAt bs ((tkZ (N : Int) p).getD lo 0) ((tkZ (N : Int) p).getD hi 0))) by
    unfold poN poK poB; rw [if_pos HC.out, if_pos HC.out, if_pos HC.out])
  obtain ⟨PC, hPC⟩ : ∃ PC, PC = (ccells (poN (N : Int) k bs (tkZ (N : Int) p)) (poK (N : Int) k bs (tkZ (N : Int) p)) (poB (N : Int) k bs (tkZ (N : Int) p))).toArray := ⟨_, rfl⟩
  rw [← hPC]
  rw [← hPC] at HPS HPO HPA
  have HPE := hidd (show (Ending.returned (.agg (ccells ((tkZ (N : Int) p).length : Int) k (paintB (tkZ (N : Int) p).length (fun lo hi => colAt bs ((tkZ (N : Int) p).getD lo 0) ((tkZ (N : Int) p).getD hi 0)))).toArray)) = .returned (.agg PC) by rw [hPC, HE.out])
  obtain ⟨t0, hi2, hz0, hz1, hz2⟩ := info_parts info2
  have HIF := hidd (And.intro hi2 (And.intro hz0 (And.intro hz1 hz2)))
  clear hi hp hi2 hz0 hz1 hz2 hPC
  go_enter Try.func48, Try.ntmps48
  go_wp2_with fail
  go_loopw [5, 6] (fun v e wr => ∃ j : Nat, j ≤ N ∧ e = .int .i64 j ∧ RelT (othB p) (ccells (N : Int) k bs).toArray (ccells 0 0 zbl).toArray w j v wr) (fun _ e _ => N - (intOf e).toNat)
  case atStart =>
    refine ⟨0, by omega, rfl, ((Blk.new _ _ _ _ rfl).alloc _).alloc _, (Blk.new _ _ _ _ (by simp)).alloc _, ⟨rfl, .inr ⟨w.heap.size + 1 + 1, 0, #[], by simp [nbK], Nat.le_refl _, ?_, ?_, ?_, rfl, rfl⟩⟩, (((Below.refl _ _).alloc (Nat.le_refl _) _).alloc (by simp) _).alloc (by simp; omega) _⟩
    · exact Blk.new _ _ _ _ (by simp)
    · simp [nbK]
    · simp [maxLen]
  case round =>
    obtain ⟨j, hj, rfl, HR⟩ := hrel
    have c0 := HR.1.cell HC0.out
    by_cases hlt : j < N
    · have HK := hidd HR
      clear HR
      by_cases hij : (j : Int) = p
      · have hnb : othB p j = false := by simp [othB, hij]
        have HH := hidd (HK.out.skip (Below.refl _ _) hnb)
        have hz : ((j : Int) != p) = false := by simpa using hij
        clear hij hnb
        go_wp2_with fail
        go_roundw
        case rel => exact ⟨j + 1, by omega, by go_num, HH.out⟩
        case measure => simp [intOf]; omega
      · have hz : ((j : Int) != p) = true := by rw [bne_iff_ne]; exact hij
        have hnb : othB p j = true := by simp [othB, hij]
        have HH := hidd (show nbK (othB p) (j + 1) = nbK (othB p) j ++ [(j : Int)] by rw [nbK, if_pos hnb])
        have hlen := nbK_len (othB p) j
        have hown := HK.out.2.2.1
        have hsz := HK.out.2.2.2.size
        have hszC := HK.out.2.1.lt
        clear hij hnb
        go_wp2_with (at_builtin; refine wpList_append_own _ rfl _ _ 38 rfl (w.heap.size + 1 + 1) 2 t0 (.int .i64 0) 1 8 Try.underlying38 HIF.out.1 HIF.out.2.1 HIF.out.2.2.1 HIF.out.2.2.2 rfl (by decide) _ _ _ rfl (hown.alloc _) ⟨wr.heap.size, 0, none⟩ 1 1 [.int .i64 (j : Int)] rfl rfl ?c1 ?c2 ?c3 ?c4 ?c5 ?_)
        case c1 => exact one_new _ _ _
        case c2 => intro u hu; simp at hu; subst hu; rfl
        case c3 => unfold maxLen; omega
        case c4 => omega
        case c5 => simp; omega
        intro v' w2 hown' hgrow _
        have K3 := hidd (show RelT (othB p) (ccells (N : Int) k bs).toArray (ccells 0 0 zbl).toArray w (j + 1) v' w2 from ⟨HK.out.1.below (grown_step hown hgrow (by omega)) (by omega), HK.out.2.1.below (grown_step hown hgrow (by omega)) (by omega), by rw [HH.out, icells_app, List.length_append]; exact hown', HK.out.2.2.2.trans ((grown_step hown hgrow (by omega)).mono (by omega))⟩)
        clear hown' hgrow hown c0
        go_wp2
        go_roundw
        case rel => exact ⟨j + 1, by omega, by go_num, K3.out⟩
        case measure => simp [intOf]; omega
    · have hje : j = N := by omega
      subst hje
      obtain ⟨a, cap, rfl, ho⟩ := own_list HR.2.2.1
      rw [← HZN.out] at ho
      have HK := hidd (And.intro HR.1 (And.intro HR.2.1 (And.intro ho.sl HR.2.2.2)))
      rw [← HZN.out]
      clear HR ho
      go_wp2_with (refine wpList_load_row rfl 29 (.tmp 2) rfl w.heap.size rfl 29 _ (0,0) _ HK.out.1 Try.underlying29 rfl HS.out ?_)
      refine (part68 (j : Int) k bs hb (tkZ (j : Int) p) a cap _ HK.out.2.2.1 n1 n2 HF.out.2 (by have := HF.out.1; omega)).mono ?_
      rintro e w2 ⟨he, hb2⟩
      rw [HPE.out] at he
      subst he
      have z2 := HK.out.2.1.below hb2 HK.out.2.1.lt
      have b2 := HK.out.2.2.2.trans (hb2.mono HK.out.2.2.2.size)
      have R := hidd (And.intro z2 (And.intro (z2.rowSame PC) (below_setRow b2 (g := w.heap.size + 1) (by omega) PC)))
      clear hb2 z2 b2 c0
      go_wp2_with (refine wpList_store_row rfl 29 (.tmp 4) (.tmp 23) rfl (w.heap.size + 1) _ rfl rfl 29 _ R.out.1 HPS.out HPO.out HPA.out ?_)
      refine bodyPost_ret (results_cell_row rfl _ _ (w.heap.size + 1) 29 _ (0,0) _ rfl R.out.2.1 Try.underlying29 rfl HPS.out) rfl ⟨rfl, R.out.2.2⟩
set_option maxRecDepth 100000 in
set_option maxHeartbeats 2000000 in
theorem spec39 (n k : Int) (bs : List Nat) (hb : Bys bs) (p : Int) (w : World) :
    Calls Try.prog 18 #[.agg (ccells n k bs).toArray, .int .i64 p] w fun e w' => e = .returned (tkOut n k bs p) ∧ Below w.heap.size w w' := by
  have HS := hidd (size_c26 n k hb)
  have Hz := zero26
  have HZS := hidd size_z26
  have HZ1 := hidd (ccells_one 0 0 zbl)
  have HC0 := hidd (show (ccells n k bs).toArray[0]? = some (.int .i64 n) from rfl)
  have hmk : ∀ w0, w0 = ((w.alloc (.cells (ccells n k bs).toArray 29)).alloc (.cells (ccells 0 0 zbl).toArray 29)).alloc (.cells #[.int .i64 p] 2) → ∀ w1, Below w0.heap.size w0 w1 →
      Blk w1 w.heap.size (ccells n k bs).toArray 29 ∧ Blk w1 (w.heap.size + 1) (ccells 0 0 zbl).toArray 29 ∧ Below w.heap.size w w1 := by
    rintro w0 rfl w1 hb1
    have hb := (((Below.refl w.heap.size w).alloc (Nat.le_refl _) (.cells (ccells n k bs).toArray 29)).alloc (by simp) (.cells (ccells 0 0 zbl).toArray 29)).alloc (by simp; omega) (.cells #[.int .i64 p] 2)
    have hbl := hb.trans (hb1.mono (by simp; omega))
    exact ⟨(((Blk.new _ _ _ _ rfl).alloc _).alloc _).below hb1 (by simp; omega), ((Blk.new _ _ _ _ (by simp)).alloc _).below hb1 (by simp), hbl⟩
  have HMK := hidd hmk
  clear hmk
  by_cases hg : given n k bs 0 [p] = 0
  · obtain ⟨hi, hp⟩ : isCol n k bs = true ∧ belowB p n = true := by
      cases hi : isCol n k bs with
      | false => rw [given_1 hi] at hg; cases hg
      | true =>
        cases hp : belowB p n with
        | false => rw [given_2 hi (by rw [all1, hp]; simp)] at hg; cases hg
        | true => exact ⟨rfl, rfl⟩
    by_cases hn1 : n = 1
    · subst hn1
      have H := hidd (tkOut_bad (tkCode_5 hi hp) (by omega))
      have HG := hidd hg
      clear hi hp hg
      go_enter Try.func18, Try.ntmps18
      go_wp2_with (refine wpList_load_row rfl 29 (.tmp 2) rfl w.heap.size rfl 29 _ (0,0) _ (((Blk.new _ _ _ _ rfl).alloc _)) Try.underlying29 rfl HS.out ?_)
      refine (given56 1 k bs hb 0 [p] (some ⟨w.heap.size + 1 + 1, 0, none⟩) 1 _ (sl1 _ p _ _ (by simp)) (by simp)).mono ?_
      rintro e w1 ⟨rfl, hb1⟩
      rw [HG.out]
      have G := hidd (HMK.out _ rfl _ hb1)
      have R := hidd (And.intro G.out.2.1 (And.intro (G.out.2.1.rowSame (ccells 0 0 zbl).toArray) (below_setRow G.out.2.2 (g := w.heap.size + 1) (by omega) (ccells 0 0 zbl).toArray)))
      have c0 := G.out.1.cell HC0.out
      clear hb1
      go_wp2_with (first
        | (refine wpList_zero26 rfl rfl ?_)
        | (refine wpList_store_row rfl 29 (.tmp 4) (.tmp 18) rfl (w.heap.size + 1) _ rfl rfl 29 _ R.out.1 HZS.out rfl HZ1.out ?_))
      exact ret_col rfl zbl_bys rfl R.out.2.1 rfl rfl ⟨by rw [H.out]; rfl, R.out.2.2⟩
    · have H := hidd (tkOut_good (tkCode_0 hi hp hn1) (poCode_0 hi (tk_fit hi hp hn1)))
      have HPB := hidd (poB_bys n k hb (tkZ n p))
      have HPS := hidd (size_c26 (poN n k bs (tkZ n p)) (poK n k bs (tkZ n p)) HPB.out)
      have HPO := hidd (size_cc 0 0 (poN n k bs (tkZ n p)) (poK n k bs (tkZ n p)) zbl_bys HPB.out)
      have HPA := hidd (ccells_one (poN n k bs (tkZ n p)) (poK n k bs (tkZ n p)) (poB n k bs (tkZ n p)))
      have HPC := hidd (poCode_0 hi (tk_fit hi hp hn1))
      have hq : (n == 1) = false := by rw [beq_eq_false_iff_ne]; exact hn1
      have HT := hidd (take48 n k bs hb p · hi hp hn1)
      have HG := hidd hg
      clear hi hp hg
      go_enter Try.func18, Try.ntmps18
      go_wp2_with (refine wpList_load_row rfl 29 (.tmp 2) rfl w.heap.size rfl 29 _ (0,0) _ (((Blk.new _ _ _ _ rfl).alloc _)) Try.underlying29 rfl HS.out ?_)
      refine (given56 n k bs hb 0 [p] (some ⟨w.heap.size + 1 + 1, 0, none⟩) 1 _ (sl1 _ p _ _ (by simp)) (by simp)).mono ?_
      rintro e w1 ⟨rfl, hb1⟩
      rw [HG.out]
      have G := hidd (HMK.out _ rfl _ hb1)
      have c0 := G.out.1.cell HC0.out
      clear hb1
      go_wp2_with (refine wpList_load_row rfl 29 (.tmp 2) rfl w.heap.size rfl 29 _ (0,0) _ G.out.1 Try.underlying29 rfl HS.out ?_)
      refine (HT.out w1).mono ?_
      rintro e w2 ⟨rfl, hb2⟩
      have z2 := G.out.2.1.below hb2 G.out.2.1.lt
      have b2 := G.out.2.2.trans (hb2.mono G.out.2.2.size)
      obtain ⟨PC, hPC⟩ : ∃ PC, PC = (ccells (poN n k bs (tkZ n p)) (poK n k bs (tkZ n p)) (poB n k bs (tkZ n p))).toArray := ⟨_, rfl⟩
      have R := hidd (And.intro z2 (And.intro (z2.rowSame PC) (below_setRow b2 (g := w.heap.size + 1) (by omega) PC)))
      clear hb2 z2 b2 c0
      rw [hPC] at R
      clear hPC
      go_wp2_with (refine wpList_store_row rfl 29 (.tmp 4) (.tmp 21) rfl (w.heap.size + 1) _ rfl rfl 29 _ R.out.1 HPS.out HPO.out HPA.out ?_)
      exact ret_col rfl HPB.out rfl R.out.2.1 rfl rfl ⟨by rw [H.out, poOut, HPC.out]; rfl, R.out.2.2⟩
  · obtain ⟨m, hm, hm0, hg2⟩ : ∃ m, tkCode n k bs p = m ∧ m ≠ 0 ∧ given n k bs 0 [p] = m := by
      cases hi : isCol n k bs with
      | false => exact ⟨1, tkCode_1 hi, by omega, given_1 hi⟩
      | true =>
        have hbd := isCol_bd hi
        cases hp : belowB p n with
        | false => exact ⟨2, tkCode_2 hi hp, by omega, given_2 hi (by rw [all1, hp]; simp)⟩
        | true => exact absurd (given_0 hi (inB_yes (by omega) (by omega)) (by rw [all1, hp])) hg
    have H := hidd (tkOut_bad hm hm0)
    have HG := hidd hg2
    have hq1 : (m != 0) = true := by rw [bne_iff_ne]; exact hm0
    clear hm hm0 hg hg2
    go_enter Try.func18, Try.ntmps18
    go_wp2_with (refine wpList_load_row rfl 29 (.tmp 2) rfl w.heap.size rfl 29 _ (0,0) _ (((Blk.new _ _ _ _ rfl).alloc _)) Try.underlying29 rfl HS.out ?_)
    refine (given56 n k bs hb 0 [p] (some ⟨w.heap.size + 1 + 1, 0, none⟩) 1 _ (sl1 _ p _ _ (by simp)) (by simp)).mono ?_
    rintro e w1 ⟨rfl, hb1⟩
    rw [HG.out]
    have G := hidd (HMK.out _ rfl _ hb1)
    have R := hidd (And.intro G.out.2.1 (And.intro (G.out.2.1.rowSame (ccells 0 0 zbl).toArray) (below_setRow G.out.2.2 (g := w.heap.size + 1) (by omega) (ccells 0 0 zbl).toArray)))
    clear hb1
    go_wp2_with (first
      | (refine wpList_zero26 rfl rfl ?_)
      | (refine wpList_store_row rfl 29 (.tmp 4) (.tmp 13) rfl (w.heap.size + 1) _ rfl rfl 29 _ R.out.1 HZS.out rfl HZ1.out ?_))
    exact ret_col rfl zbl_bys rfl R.out.2.1 rfl rfl ⟨by rw [H.out]; rfl, R.out.2.2⟩
end Go.Proofs.Ytpjegmmichjlbaa
