/- MultipliersOf: the program's own walk. -/
import Derived.Test.YtikcmgmgdbbcfaaMul
namespace Go.Proofs.Ytikcmgmgdbbcfaa
set_option linter.unusedVariables false
set_option linter.unusedSimpArgs false
open Go Go.RowKit Go.Shelf
def RelMu (N : Nat) (zs : List Int) (C : Array Value) (w w1 : World) (j : Nat) (v : Value) (wr : World) : Prop :=
  Blk wr w.heap.size C 25 ∧ wr.ownsRow w1.heap.size 2 1 v (muL N zs j).length (icells (muL N zs j)) ∧ Below w1.heap.size w1 wr
theorem turnB_lt {N t : Nat} (h1 : 1 ≤ t) (h2 : t < N) : turnB (t : Int) (N : Int) = (Nat.gcd N t == 1) := by
  unfold turnB
  rw [inB_yes (by omega) (by omega), Bool.true_and, Int.toNat_natCast, Int.toNat_natCast]
theorem below_next {wr W w' : World} {S : Prop} (h : Below wr.heap.size wr W ∧ S) (hb : Below W.heap.size W w') : Below wr.heap.size wr w' := h.1.trans (hb.mono h.1.size)
theorem below_times {wr W w' : World} {S : Prop} {t n : Int} (h : Below wr.heap.size wr W ∧ S) (hw : (W.alloc (.cells #[.int .i64 t] 2)).alloc (.cells #[.int .i64 n] 2) = w') :
    Below wr.heap.size wr w' ∧ Blk w' W.heap.size #[.int .i64 t] 2 ∧ Blk w' (W.heap.size + 1) #[.int .i64 n] 2 := by
  subst hw
  have := h.1.size
  exact ⟨(h.1.alloc h.1.size _).alloc (by simp; omega) _, (Blk.new _ _ _ _ rfl).alloc _, Blk.new _ _ _ _ (by simp)⟩
theorem muL_no {N : Nat} {zs : List Int} {j : Nat} (h : goodM N zs (j + 1) = false) : muL N zs (j + 1) = muL N zs j := by rw [muL, h]; simp
theorem muL_yes {N : Nat} {zs : List Int} {j : Nat} (h : goodM N zs (j + 1) = true) : muL N zs (j + 1) = muL N zs j ++ [((j : Int) + 1)] := by rw [muL, h, if_pos rfl]; rfl
set_option maxRecDepth 100000 in
set_option maxHeartbeats 4000000 in
theorem impl35m (n k : Int) (bs : List Nat) (hb : Bys bs) (w : World) :
    Calls Try.prog 35 #[.agg (ccells n k bs).toArray] w (LOut w (mpList n k bs) (lcCode n k bs)) := by
  have HS := hidd (size_c26 n k hb)
  have HC0 := hidd (show (ccells n k bs).toArray[0]? = some (.int .i64 n) from rfl)
  by_cases hc0 : lcCode n k bs = 0
  · have hi : isCol n k bs = true := by
      cases hi : isCol n k bs with
      | true => rfl
      | false => rw [(lc_1 hi).2] at hc0; cases hc0
    obtain ⟨n1, n2, k1, k2⟩ := isCol_bd hi
    obtain ⟨N, rfl⟩ := Int.eq_ofNat_of_zero_le (show 0 ≤ n by omega)
    have hcb : circB N bs = true := by
      cases h : circB N bs with
      | true => rfl
      | false => rw [(lc_5 hi (by rw [Int.toNat_natCast]; exact h)).2] at hc0; cases hc0
    have h2N : 2 ≤ N := by unfold circB at hcb; rw [Bool.and_eq_true] at hcb; exact of_decide_eq_true hcb.1
    have hN17 : N ≤ 17 := by omega
    have hll : lcList (N : Int) k bs = lcL N bs := (lc_0 hi (by rw [Int.toNat_natCast]; exact hcb)).1
    have hmp : mpList (N : Int) k bs = muL N (lcL N bs) (N - 1) := by unfold mpList; rw [if_pos hc0, Int.toNat_natCast]
    have HLO := hidd (fun W => impl29l (N : Int) k bs hb W)
    have HLN := hidd (lcL_len N bs)
    rw [hc0, hmp]
    rw [hll, hc0] at HLO
    obtain ⟨zs, hzs⟩ : ∃ zs, zs = lcL N bs := ⟨_, rfl⟩
    rw [← hzs] at HLO HLN ⊢
    obtain ⟨t0, hi2, hz0, hz1, hz3⟩ := info_parts info2
    have HIF := hidd (And.intro hi2 (And.intro hz0 (And.intro hz1 hz3)))
    clear hi hcb hll hmp hc0 hzs hi2 hz0 hz1 hz3
    go_enter Try.func35, Try.ntmps35
    go_wp2_with (refine wpList_load_row rfl 25 (.tmp 1) rfl w.heap.size rfl 25 _ (0,0) _ (Blk.new _ _ _ _ rfl) Try.underlying25 rfl HS.out ?_)
    refine (HLO.out _).mono ?_
    rintro e w1 ⟨a, cap, rfl, hown, hb1⟩
    have G := hidd (And.intro ((Blk.new w (ccells (N : Int) k bs).toArray 25 _ rfl).below hb1 (by simp)) (And.intro hown (((Below.refl w.heap.size w).alloc (Nat.le_refl _) (.cells (ccells (N : Int) k bs).toArray 25)).trans (hb1.mono (by simp)))))
    have hz : ((0 : Int) != 0) = false := rfl
    clear hb1 hown
    go_wp2_with fail
    go_loopw [6, 7] (fun v e wr => ∃ j : Nat, j ≤ N - 1 ∧ e = .int .i64 ((j : Int) + 1) ∧ RelMu N zs (ccells (N : Int) k bs).toArray w w1 j v wr) (fun _ e _ => N + 1 - (intOf e).toNat)
    case atStart => exact ⟨0, by omega, rfl, G.out.1, ⟨rfl, .inl ⟨rfl, rfl⟩⟩, Below.refl _ _⟩
    case round =>
      obtain ⟨j, hj, rfl, HR⟩ := hrel
      have HK := hidd HR
      clear HR
      have c0 := HK.out.1.cell HC0.out
      by_cases hlt : j < N - 1
      · have hjl : (j : Int) + 1 < (N : Int) := by omega
        have htb : turnB ((j : Int) + 1) (N : Int) = (Nat.gcd N (j + 1) == 1) := by rw [show (j : Int) + 1 = ((j + 1 : Nat) : Int) from rfl]; exact turnB_lt (by omega) (by omega)
        have HTU := hidd (fun W => turns57 ((j : Int) + 1) (N : Int) (by omega) (by omega) W)
        rw [htb] at HTU
        cases hg : (Nat.gcd N (j + 1) == 1) with
        | false =>
          have HML := hidd (muL_no (zs := zs) (show goodM N zs (j + 1) = false by unfold goodM; rw [hg]; rfl))
          rw [hg] at HTU
          clear hg htb
          go_wp2_with fail
          clear c0
          refine wp_region_quiet_at (fun w' => Below wr.heap.size wr w') rfl (by kernel_rfl) ((Below.refl _ _).drew) ?_
          refine qs rfl (fun KQ hKQ => ?_)
          apply Exists.intro
          refine ⟨fun w' hw' => ?_, ?_⟩
          · go_simp; exact rfl
          go_simp
          refine hKQ _ ?_
          clear hKQ KQ
          refine qs rfl (fun KQ hKQ => ?_)
          apply Exists.intro
          refine ⟨fun w' hw' => ?_, ?_⟩
          · go_simp; exact rfl
          go_simp
          refine hKQ _ ?_
          clear hKQ KQ
          refine qs rfl (fun KQ hKQ => ?_)
          apply Exists.intro
          refine ⟨fun w' hw' => ?_, ?_⟩
          · have c0 := (HK.out.1.below hw' HK.out.1.lt).cell HC0.out; go_simp; exact rfl
          go_simp
          refine hKQ _ ?_
          clear hKQ KQ
          refine qs rfl (fun KQ hKQ => ?_)
          apply Exists.intro
          refine ⟨fun w' hw' => ?_, ?_⟩
          · go_simp; exact (HTU.out _).mono fun _ _ h => ⟨h.1, hw'.trans (h.2.mono hw'.size)⟩
          go_simp
          refine hKQ _ ?_
          clear hKQ KQ
          refine qs rfl (fun KQ hKQ => ?_)
          apply Exists.intro
          refine ⟨fun w' hw' => ?_, ?_⟩
          · go_simp; exact rfl
          go_simp
          refine hKQ _ ?_
          clear hKQ KQ
          go_big_quiet_skip
          go_big_quiet_skip
          go_big_quiet_skip
          go_big_quiet_skip
          go_big_quiet_skip
          go_big_quiet_skip
          go_big_quiet_skip
          go_big_quiet_skip
          refine qs rfl (fun KQ hKQ => ?_)
          apply Exists.intro
          refine ⟨fun w' hw' => ?_, ?_⟩
          · go_simp; exact rfl
          go_simp
          refine hKQ _ ?_
          clear hKQ KQ
          refine wpQuiet_nil ?_
          intro w' hw'
          have K := hidd (show RelMu N zs (ccells (N : Int) k bs).toArray w w1 (j + 1) _ w' from ⟨HK.out.1.below hw' HK.out.1.lt, by rw [HML.out]; exact own_below HK.out.2.1 hw' (Nat.le_refl _), HK.out.2.2.trans (hw'.mono HK.out.2.2.size)⟩)
          clear hw'
          go_wp2_with fail
          go_roundw
          case rel => exact ⟨j + 1, by omega, by go_num, K.out⟩
          case measure => simp [intOf]; omega
        | true =>
          have HG1 := hidd (beq_iff_eq.1 hg)
          rw [hg] at HTU
          obtain ⟨g, hgk⟩ : ∃ g, g = kpB N zs (j + 1) (N / 2) := ⟨_, rfl⟩
          have HKP := hidd (fun W b0 b1 (h1 : Blk W b0 #[.int .i64 ((j : Int) + 1)] 2) (h2 : Blk W b1 #[.int .i64 (N : Int)] 2) (h3 : SlI W a zs) => keeps72 N (j + 1) zs a cap b0 b1 W h1 h2 h3 hN17 (by omega) (by omega) HG1.out HLN.out)
          rw [← hgk] at HKP
          have HGM := hidd (show goodM N zs (j + 1) = g by unfold goodM; rw [hg, Bool.true_and, hgk])
          clear hg htb hgk
          go_wp2_with fail
          clear c0
          have HSL := hidd (fun W (h : Below wr.heap.size wr W) => (G.out.2.1.sl.below (HK.out.2.2.trans (h.mono HK.out.2.2.size)) (Nat.le_refl _) : SlI W a zs))
          have HCW := hidd (fun W (h : Below wr.heap.size wr W) => (HK.out.1.below h HK.out.1.lt).cell HC0.out)
          go_region_held (fun w' => Below wr.heap.size wr w' ∧ w'.cell? ⟨w.heap.size, 0, none⟩ = some (.int .i64 (N : Int)))
            (exact ⟨by first | assumption | exact (Below.refl _ _).drew, HCW.out _ (by first | assumption | exact (Below.refl _ _).drew)⟩)
            (first
              | (go_at_call 57; refine (HTU.out _).mono ?_; rintro e w' ⟨rfl, hbN⟩; have hbX := below_next (by assumption) hbN; clear hbN)
              | (go_at_call 58; refine (times58 _ _ _).mono ?_; rintro e w' ⟨rfl, hwN⟩; obtain ⟨hbX, hTX, hNX⟩ := below_times (by assumption) hwN; clear hwN)
              | (go_at_call 72; refine (HKP.out _ _ _ (by assumption) (by assumption) (HSL.out _ (by assumption))).mono ?_; rintro e w' ⟨rfl, rfl⟩))
          have hbW : Below wr.heap.size wr w' := by first | assumption | exact And.left (by assumption)
          have K0 := hidd (And.intro (HK.out.1.below hbW HK.out.1.lt) (And.intro (own_below HK.out.2.1 hbW (Nat.le_refl _)) (HK.out.2.2.trans (hbW.mono HK.out.2.2.size))))
          clear hbW
          cases g with
          | false =>
            have HML := hidd (muL_no (zs := zs) HGM.out)
            have K := hidd (show RelMu N zs (ccells (N : Int) k bs).toArray w w1 (j + 1) _ w' from ⟨K0.out.1, by rw [HML.out]; exact K0.out.2.1, K0.out.2.2⟩)
            go_wp2_with fail
            go_roundw
            case rel => exact ⟨j + 1, by omega, by go_num, K.out⟩
            case measure => simp [intOf]; omega
          | true =>
            have HML := hidd (muL_yes (zs := zs) HGM.out)
            have hown := K0.out.2.1
            have hlen := muL_len N zs j
            have hsz := K0.out.2.2.size
            have hszC := K0.out.1.lt
            have hszG := G.out.1.lt
            go_wp2_with (at_builtin; refine wpList_append_own _ rfl _ _ 22 rfl w1.heap.size 2 t0 (.int .i64 0) 1 8 Try.underlying22 HIF.out.1 HIF.out.2.1 HIF.out.2.2.1 HIF.out.2.2.2 rfl (by decide) _ _ _ rfl (hown.alloc _) ⟨w'.heap.size, 0, none⟩ 1 1 [.int .i64 ((j : Int) + 1)] rfl rfl ?c1 ?c2 ?c3 ?c4 ?c5 ?_)
            case c1 => exact one_new _ _ _
            case c2 => intro u hu; simp at hu; subst hu; rfl
            case c3 => unfold maxLen; omega
            case c4 => omega
            case c5 => simp; omega
            intro v' w2 hown' hgrow _
            have K3 := hidd (show RelMu N zs (ccells (N : Int) k bs).toArray w w1 (j + 1) v' w2 from ⟨K0.out.1.below (grown_step hown hgrow (by omega)) (by omega), by rw [HML.out, icells_app, List.length_append]; exact hown', K0.out.2.2.trans ((grown_step hown hgrow (by omega)).mono (by omega))⟩)
            clear hown' hgrow hown
            go_wp2
            go_roundw
            case rel => exact ⟨j + 1, by omega, by go_num, K3.out⟩
            case measure => simp [intOf]; omega
      · have hje : j = N - 1 := by omega
        have hd : decide ((j : Int) + 1 < (N : Int)) = false := by simp; omega
        subst hje
        obtain ⟨a2, cap2, rfl, ho⟩ := own_list HK.out.2.1
        have K := hidd (And.intro ho (G.out.2.2.trans (HK.out.2.2.mono G.out.2.2.size)))
        clear HK ho
        go_wp2_with fail
        go_ret2
        exact ⟨a2, cap2, rfl, ownL_base K.out.1 G.out.2.2.size, K.out.2⟩
  · have hll : lcList n k bs = [] := by unfold lcList; rw [if_neg hc0]
    have hmp : mpList n k bs = [] := by unfold mpList; rw [if_neg hc0]
    have HLO := hidd (fun W => impl29l n k bs hb W)
    obtain ⟨c, hc⟩ : ∃ c, c = lcCode n k bs := ⟨_, rfl⟩
    rw [hll, ← hc] at HLO
    rw [hmp, ← hc]
    rw [← hc] at hc0
    have hz : (c != 0) = true := by rw [bne_iff_ne]; exact hc0
    clear hll hmp hc hc0
    go_enter Try.func35, Try.ntmps35
    go_wp2_with (refine wpList_load_row rfl 25 (.tmp 1) rfl w.heap.size rfl 25 _ (0,0) _ (Blk.new _ _ _ _ rfl) Try.underlying25 rfl HS.out ?_)
    refine (HLO.out _).mono ?_
    rintro e w1 ⟨a, cap, rfl, hown, hb1⟩
    have G := hidd (((Below.refl w.heap.size w).alloc (Nat.le_refl _) (.cells (ccells n k bs).toArray 25)).trans (hb1.mono (by simp)))
    clear hb1 hown
    go_wp2_with fail
    go_ret2
    exact lout_nil rfl G.out
end Go.Proofs.Ytikcmgmgdbbcfaa
