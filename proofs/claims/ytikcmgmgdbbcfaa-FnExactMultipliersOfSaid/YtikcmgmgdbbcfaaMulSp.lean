/- MultipliersOf: its model. -/
import Derived.Test.YtikcmgmgdbbcfaaMulIm
import Derived.Test.YtikcmgmgdbbcfaaLstSp
namespace Go.Proofs.Ytikcmgmgdbbcfaa
set_option linter.unusedVariables false
set_option linter.unusedSimpArgs false
open Go Go.RowKit Go.Shelf
theorem kpB_step (N : Nat) (zs : List Int) (t e : Nat) : kpB N zs t (e + 1) = (kpB N zs t e && (zs.getD (dst N 0 (t * (e + 1) % N) - 1) 0 == zs.getD e 0)) := by simp [kpB, List.range_succ]
theorem kpB_fall {N : Nat} {zs : List Int} {t e m : Nat} (h : kpB N zs t e = false) (hm : e ≤ m) : kpB N zs t m = false := by
  unfold kpB at *
  rw [List.all_eq_false] at *
  obtain ⟨d, hd, h2⟩ := h
  exact ⟨d, List.mem_range.2 (by have := List.mem_range.1 hd; omega), h2⟩
set_option maxRecDepth 100000 in
set_option maxHeartbeats 8000000 in
theorem spec34m (n k : Int) (bs : List Nat) (hb : Bys bs) (w : World) :
    Calls Try.prog 34 #[.agg (ccells n k bs).toArray] w (LOut w (mpList n k bs) (lcCode n k bs)) := by
  have HS := hidd (size_c26 n k hb)
  have HC0 := hidd (show (ccells n k bs).toArray[0]? = some (.int .i64 n) from rfl)
  cases hi : isCol n k bs with
  | false =>
    have hmp : mpList n k bs = [] := by unfold mpList; rw [(lc_1 hi).2]; rfl
    have HI := hidd hi
    rw [hmp, (lc_1 hi).2]
    clear hi hmp
    go_enter Try.func34, Try.ntmps34
    go_wp2_with (refine wpList_load_row rfl 25 (.tmp 1) rfl w.heap.size rfl 25 _ (0,0) _ (Blk.new _ _ _ _ rfl) Try.underlying25 rfl HS.out ?_)
    refine (l01Is_any n k bs hb _).mono ?_
    rintro e w1 ⟨rfl, hb1⟩
    rw [HI.out]
    have G := hidd (((Below.refl w.heap.size w).alloc (Nat.le_refl _) (.cells (ccells n k bs).toArray 25)).trans (hb1.mono (by simp)))
    clear hb1
    go_wp2_with fail
    go_ret2
    exact lout_nil rfl G.out
  | true =>
    obtain ⟨n1, n2, k1, k2⟩ := isCol_bd hi
    have HI := hidd hi
    obtain ⟨N, rfl⟩ := Int.eq_ofNat_of_zero_le (show 0 ≤ n by omega)
    have hN1 : 1 ≤ N := by omega
    have hN17 : N ≤ 17 := by omega
    obtain ⟨ls, hls⟩ : ∃ ls, ls = (if 2 ≤ N then lcL N bs else []) := ⟨_, rfl⟩
    have HLO := hidd (fun W => by have h := list67 N k bs hb hN1 hN17 W; rw [← hls] at h; exact h)
    cases hcb : circB N bs with
    | false =>
      have hcd := lc_5 (n := (N : Int)) (k := k) hi (by rw [Int.toNat_natCast]; exact hcb)
      have hmp : mpList (N : Int) k bs = [] := by unfold mpList; rw [hcd.2]; rfl
      rw [hmp, hcd.2]
      rw [hcb] at HLO
      clear hi hcb hls hmp hcd
      go_enter Try.func34, Try.ntmps34
      go_wp2_with (refine wpList_load_row rfl 25 (.tmp 1) rfl w.heap.size rfl 25 _ (0,0) _ (Blk.new _ _ _ _ rfl) Try.underlying25 rfl HS.out ?_)
      refine (l01Is_any (N : Int) k bs hb _).mono ?_
      rintro e w1 ⟨rfl, hb1⟩
      rw [HI.out]
      have G := hidd (And.intro ((Blk.new w (ccells (N : Int) k bs).toArray 25 _ rfl).below hb1 (by simp)) (((Below.refl w.heap.size w).alloc (Nat.le_refl _) (.cells (ccells (N : Int) k bs).toArray 25)).trans (hb1.mono (by simp))))
      clear hb1
      go_wp2_with (refine wpList_load_row rfl 25 (.tmp 1) rfl w.heap.size rfl 25 _ (0,0) _ G.out.1 Try.underlying25 rfl HS.out ?_)
      refine (HLO.out _).mono ?_
      rintro e w2 ⟨a, cap, rfl, hown, hb2⟩
      have R := hidd (G.out.2.trans (hb2.mono G.out.2.size))
      clear hb2 hown
      go_wp2_with fail
      go_ret2
      exact lout_nil rfl R.out
    | true =>
      have h2N : 2 ≤ N := by unfold circB at hcb; rw [Bool.and_eq_true] at hcb; exact of_decide_eq_true hcb.1
      have hcd := lc_0 (n := (N : Int)) (k := k) hi (by rw [Int.toNat_natCast]; exact hcb)
      have hmp : mpList (N : Int) k bs = muL N (lcL N bs) (N - 1) := by unfold mpList; rw [hcd.2, if_pos rfl, Int.toNat_natCast]
      rw [hmp, hcd.2]
      rw [hcb] at HLO
      rw [if_pos h2N] at hls
      have HLN := hidd (show ls.length = N / 2 by rw [hls, lcL_len])
      rw [← hls]
      obtain ⟨t0, hi2, hz0, hz1, hz3⟩ := info_parts info2
      have HIF := hidd (And.intro hi2 (And.intro hz0 (And.intro hz1 hz3)))
      have hzN : ((N : Int) == 0) = false := by rw [beq_eq_false_iff_ne]; omega
      have HHALF := hidd (show (N : Int) / 2 = ((N / 2 : Nat) : Int) by omega)
      clear hi hcb hls hmp hcd hi2 hz0 hz1 hz3
      go_enter Try.func34, Try.ntmps34
      go_wp2_with (refine wpList_load_row rfl 25 (.tmp 1) rfl w.heap.size rfl 25 _ (0,0) _ (Blk.new _ _ _ _ rfl) Try.underlying25 rfl HS.out ?_)
      refine (l01Is_any (N : Int) k bs hb _).mono ?_
      rintro e w1 ⟨rfl, hb1⟩
      rw [HI.out]
      have G := hidd (And.intro ((Blk.new w (ccells (N : Int) k bs).toArray 25 _ rfl).below hb1 (by simp)) (((Below.refl w.heap.size w).alloc (Nat.le_refl _) (.cells (ccells (N : Int) k bs).toArray 25)).trans (hb1.mono (by simp))))
      clear hb1
      go_wp2_with (refine wpList_load_row rfl 25 (.tmp 1) rfl w.heap.size rfl 25 _ (0,0) _ G.out.1 Try.underlying25 rfl HS.out ?_)
      refine (HLO.out _).mono ?_
      rintro e w2 ⟨a, cap, rfl, hown, hb2⟩
      have G2 := hidd (And.intro (G.out.1.below hb2 G.out.1.lt) (And.intro (hown.sl) (G.out.2.trans (hb2.mono G.out.2.size))))
      clear hb2 hown
      go_wp2_with fail
      go_loopw [6, 7] (fun v e wr => ∃ j : Nat, j ≤ N - 1 ∧ e = .int .i64 ((j : Int) + 1) ∧ RelMu N ls (ccells (N : Int) k bs).toArray w w2 j v wr) (fun _ e _ => N + 1 - (intOf e).toNat)
      case atStart =>
        have hlt2 := G2.out.1.lt
        refine ⟨0, by omega, rfl, G2.out.1.alloc _, ⟨rfl, .inr ⟨w2.heap.size, 0, #[], rfl, by omega, ?_, ?_, ?_, rfl, rfl⟩⟩, (Below.refl _ _).alloc (Nat.le_refl _) _⟩
        · exact Blk.new _ _ _ _ rfl
        · simp [muL]
        · simp [maxLen]
      case round =>
        obtain ⟨j, hj, rfl, HR⟩ := hrel
        have HK := hidd HR
        clear HR
        have c0 := HK.out.1.cell HC0.out
        by_cases hlt : j < N - 1
        · have hjl : (j : Int) + 1 < (N : Int) := by omega
          have hgc : Nat.gcd (j + 1) N = Nat.gcd N (j + 1) := Nat.gcd_comm _ _
          have HSG := hidd (fun W => by have h := sgcd53 (j + 1) N (by omega) hN17 W; rw [hgc] at h; exact h)
          obtain ⟨gv, hgv⟩ : ∃ gv, gv = Nat.gcd N (j + 1) := ⟨_, rfl⟩
          rw [← hgv, show ((j + 1 : Nat) : Int) = (j : Int) + 1 from rfl] at HSG
          obtain ⟨gB, hgB⟩ : ∃ gB, gB = (Nat.gcd N (j + 1) == 1) := ⟨_, rfl⟩
          have hge : ((gv : Int) == 1) = gB := by rw [hgB, ← hgv]; exact int_beq gv 1
          have HGB := hidd hgB
          clear hgc hgv hgB
          obtain ⟨wo, rfl⟩ : ∃ wo : World, wo = wr := ⟨_, rfl⟩
          go_wp2_with (go_at_call 53; refine (HSG.out _).mono ?_; rintro e w' ⟨rfl, rfl⟩)
          clear c0
          go_loopw [8, 9] (fun g e wi => ∃ d : Nat, d ≤ N / 2 ∧ e = .int .i64 ((d : Int) + 1) ∧ g = .bool (gB && kpB N ls (j + 1) d) ∧ Hid (Below wo.heap.size wo wi)) (fun _ e _ => N + 1 - (intOf e).toNat)
          case atStart => exact ⟨0, by omega, rfl, by rw [show kpB N ls (j + 1) 0 = true from rfl, Bool.and_true], Below.refl _ _⟩
          case round =>
            obtain ⟨d, hd, rfl, rfl, HBW⟩ := hrel
            have c0 := (HK.out.1.below HBW.out HK.out.1.lt).cell HC0.out
            have HSL := hidd (G2.out.2.1.below (HK.out.2.2.trans (HBW.out.mono HK.out.2.2.size)) (Nat.le_refl _))
            have K0 := hidd (And.intro (HK.out.1.below HBW.out HK.out.1.lt) (And.intro (own_below HK.out.2.1 HBW.out (Nat.le_refl _)) (HK.out.2.2.trans (HBW.out.mono HK.out.2.2.size))))
            obtain ⟨b, hbb⟩ : ∃ b, b = (gB && kpB N ls (j + 1) d) := ⟨_, rfl⟩
            rw [← hbb]
            by_cases hlt2 : d < N / 2
            · have hdI : decide ((d : Int) + 1 ≤ (N : Int) / 2) = true := by simp; omega
              cases b with
              | false =>
                have HML := hidd (muL_no (N := N) (zs := ls) (j := j) (by
                  unfold goodM
                  rw [← HGB.out]
                  cases hg2 : gB with
                  | false => rfl
                  | true => rw [hg2, Bool.true_and] at hbb; rw [Bool.true_and]; exact kpB_fall hbb.symm (by omega)))
                have K := hidd (show RelMu N ls (ccells (N : Int) k bs).toArray w w2 (j + 1) _ wr from ⟨K0.out.1, by rw [HML.out]; exact K0.out.2.1, K0.out.2.2⟩)
                clear hbb
                go_wp2_with fail
                go_roundw
                case rel => exact ⟨j + 1, by omega, by go_num, K.out⟩
                case measure => simp [intOf]; omega
              | true =>
                have hbt := hbb.symm
                rw [Bool.and_eq_true] at hbt
                have hgcd : Nat.gcd N (j + 1) = 1 := by have := HGB.out; rw [hbt.1] at this; exact beq_iff_eq.1 this.symm
                have hkp := hbt.2
                have HGT := hidd hbt.1
                rcases HSL.out with hz | ⟨bl, off, ha, hc⟩
                · have := HLN.out; rw [hz] at this; simp at this; omega
                · subst ha
                  have hr1 := rest_pos N (by omega) (j + 1) (by omega) (d + 1) (by omega) hgcd (by omega) (by omega)
                  have hr2 : (j + 1) * (d + 1) % N < N := Nat.mod_lt _ (by omega)
                  have hmod : (((j : Int) + 1) * ((d : Int) + 1)) % (N : Int) = (((j + 1) * (d + 1) % N : Nat) : Int) := by simp
                  obtain ⟨r, hr⟩ : ∃ r, r = (j + 1) * (d + 1) % N := ⟨_, rfl⟩
                  rw [← hr] at hr1 hr2 hmod
                  obtain ⟨hd1, hd2⟩ := dst_bd (N := N) (lo := 0) (hi := r) (by omega) hr2
                  have hDI := dst_int' (N := N) (lo := 0) (hi := r) (by omega) hr2
                  obtain ⟨F, hF⟩ : ∃ F, F = dst N 0 r - 1 := ⟨_, rfl⟩
                  have HDI := hidd (show min (max (0 : Int) (r : Int) - min (0 : Int) (r : Int)) ((N : Int) - (max (0 : Int) (r : Int) - min (0 : Int) (r : Int))) = (F : Int) + 1 by rw [show (0 : Int) = ((0 : Nat) : Int) from rfl, hDI]; omega)
                  have hFl : F < ls.length := by rw [HLN.out]; omega
                  have hcd := hc d (by rw [HLN.out]; omega)
                  have hcF := hc F hFl
                  obtain ⟨z, hz⟩ : ∃ z, z = ls.getD d 0 := ⟨_, rfl⟩
                  obtain ⟨y, hy⟩ : ∃ y, y = ls.getD F 0 := ⟨_, rfl⟩
                  rw [← hz] at hcd
                  rw [← hy] at hcF
                  have hst := kpB_step N ls (j + 1) d
                  rw [hkp, Bool.true_and, ← hr, ← hF, ← hy, ← hz] at hst
                  have hpr := mul_rng' (T := j + 1) (e := d + 1) (N := N) (by omega) (by omega) hN17
                  rw [Int.natCast_add, Int.natCast_add] at hpr
                  simp only [Int.cast_ofNat_Int] at hpr
                  obtain ⟨m0, m1⟩ := hpr
                  have hwp : IntKind.i64.wrap (((j : Int) + 1) * ((d : Int) + 1)) = ((j : Int) + 1) * ((d : Int) + 1) := IntWalk.i64_in _ (by omega)
                  have hwd : IntKind.i64.wrap (d : Int) = (d : Int) := IntWalk.i64_in _ (by omega)
                  have hwF : IntKind.i64.wrap (F : Int) = (F : Int) := IntWalk.i64_in _ (by omega)
                  have hFI : (F : Int) < (ls.length : Int) := by omega
                  have hdl : (d : Int) < (ls.length : Int) := by have := HLN.out; omega
                  have hrI : (r : Int) < (N : Int) := by omega
                  obtain ⟨q, hq⟩ : ∃ q, q = (z == y) := ⟨_, rfl⟩
                  have HQ := hidd (show (gB && kpB N ls (j + 1) (d + 1)) = q by
                    rw [HGT.out, Bool.true_and, hst, hq, Bool.eq_iff_iff, beq_iff_eq, beq_iff_eq]; exact eq_comm)
                  have hq' := hq.symm
                  clear hc hz hy hr hF hDI hd1 hd2 hst hbb hbt hgcd hkp hq
                  go_wp2_with fail
                  go_quiet ((go_at_call 71; exact Calls.quiet_of_same ((sdist71 0 (r : Int) (N : Int) (by omega) (by omega) (by omega) hrI (by omega) _).mono fun _ _ h => ⟨by rw [h.1, HDI.out], h.2.symm⟩)))
                  have K := hidd (show Below wo.heap.size wo (wr.drewN nq) from below_drewN HBW.out nq)
                  go_wp2_with fail
                  go_roundw
                  case rel => exact ⟨d + 1, by omega, by go_num, by rw [HQ.out], K.out⟩
                  case measure => simp [intOf]; omega
            · have hde : d = N / 2 := by omega
              have hdI : decide ((d : Int) + 1 ≤ (N : Int) / 2) = false := by simp; omega
              have HGM := hidd (show goodM N ls (j + 1) = b by rw [hbb, hde]; unfold goodM; rw [← HGB.out])
              clear hbb
              cases b with
              | false =>
                have HML := hidd (muL_no (zs := ls) HGM.out)
                have K := hidd (show RelMu N ls (ccells (N : Int) k bs).toArray w w2 (j + 1) _ wr from ⟨K0.out.1, by rw [HML.out]; exact K0.out.2.1, K0.out.2.2⟩)
                go_wp2_with fail
                go_roundw
                case rel => exact ⟨j + 1, by omega, by go_num, K.out⟩
                case measure => simp [intOf]; omega
              | true =>
                have HML := hidd (muL_yes (zs := ls) HGM.out)
                have hown := K0.out.2.1
                have hlen := muL_len N ls j
                have hsz := K0.out.2.2.size
                have hszC := K0.out.1.lt
                have hszG := G2.out.1.lt
                go_wp2_with (at_builtin; refine wpList_append_own _ rfl _ _ 22 rfl w2.heap.size 2 t0 (.int .i64 0) 1 8 Try.underlying22 HIF.out.1 HIF.out.2.1 HIF.out.2.2.1 HIF.out.2.2.2 rfl (by decide) _ _ _ rfl (hown.alloc _) ⟨wr.heap.size, 0, none⟩ 1 1 [.int .i64 ((j : Int) + 1)] rfl rfl ?c1 ?c2 ?c3 ?c4 ?c5 ?_)
                case c2 => rfl
                case c3 => unfold maxLen; omega
                case c4 => omega
                case c5 => omega
                intro v' w3 hown' hgrow _
                have K3 := hidd (show RelMu N ls (ccells (N : Int) k bs).toArray w w2 (j + 1) v' w3 from ⟨K0.out.1.below (grown_step hown hgrow (by omega)) (by omega), by rw [HML.out, icells_app, List.length_append]; exact hown', K0.out.2.2.trans ((grown_step hown hgrow (by omega)).mono (by omega))⟩)
                clear hown' hgrow hown
                go_wp2
                go_roundw
                case rel => exact ⟨j + 1, by omega, by go_num, K3.out⟩
                case measure => simp [intOf]; omega
        · have hje : j = N - 1 := by omega
          have hd : decide ((j : Int) + 1 < (N : Int)) = false := by simp; omega
          subst hje
          obtain ⟨a2, cap2, rfl, ho⟩ := own_list HK.out.2.1
          have K := hidd (And.intro ho (G2.out.2.2.trans (HK.out.2.2.mono G2.out.2.2.size)))
          clear HK ho
          go_wp2_with fail
          go_ret2
          exact ⟨a2, cap2, rfl, ownL_base K.out.1 G2.out.2.2.size, K.out.2⟩
end Go.Proofs.Ytikcmgmgdbbcfaa
