/- LongestBeginning: the model. -/
import Derived.Test.YtckffliiidgilaaDoorLbm
import Derived.Test.YtckffliiidgilaaDoorLsp
import Derived.Test.YtckffliiidgilaaDoorPsp
import Derived.Test.YtckffliiidgilaaDoorEav
namespace Go.Proofs.YtckffliiidgilaaDoor
set_option linter.unusedVariables false
set_option linter.unusedSimpArgs false
open Go Go.RowKit Go.Shelf
/-- The numbers below m. -/
def upL (m : Nat) : List Int := (List.range m).map fun (i : Nat) => (i : Int)
theorem upL_len (m : Nat) : (upL m).length = m := by simp [upL]
theorem upL_get {m j : Nat} (h : j < m) : (upL m).getD j 0 = (j : Int) := by simp [upL, List.getD, h]
theorem upL_snoc (m : Nat) : upL (m + 1) = upL m ++ [(m : Int)] := by simp [upL, List.range_succ]
theorem upL_nbK (m : Nat) : upL m = nbK (fun _ => true) m := by
  induction m with
  | zero => rfl
  | succ m ih => rw [upL_snoc, ih]; simp [nbK]
theorem upL_set {m N : Nat} (h : m ≤ N) : setB (upL m) (N : Int) = true := by
  have h1 := nbK_set (fun _ => true) (N := m) (n := (m : Int)) rfl
  rw [← upL_nbK] at h1
  unfold setB at h1 ⊢
  rw [Bool.and_eq_true] at h1 ⊢
  refine ⟨h1.1, allB_yes fun j hj => ?_⟩
  have := allB_get h1.2 hj
  exact inB_yes (by omega) (by omega)
theorem colAt_paint {M : Nat} {bs : List Nat} (hb : Bys bs) (hM : M ≤ 17) {lo hi : Nat} (h1 : lo < hi) (h2 : hi < M) : colAt (paintB M fun l h => colAt bs ((upL M).getD l 0) ((upL M).getD h 0)) (lo : Int) (hi : Int) = colAt bs (lo : Int) (hi : Int) := by
  have e : (paintB M fun l h => colAt bs ((upL M).getD l 0) ((upL M).getD h 0)) = paintB M fun l h => (fun x => x) (colAt bs (l : Int) (h : Int)) :=
    paint_congr fun l h h3 h4 => by rw [upL_get (by omega), upL_get h4]
  have e2 := paint_turn hM (fun x => x) bs
  rw [e, e2, colAt_eN _ h1, colAt_eN _ h1]
  have hed := eN_edg hi
  have hed2 := eN_edg M
  have hm := edg_mono (a := (hi : Int) + 1) (b := (M : Int)) (by omega) (by omega)
  have hs := edg_step (hi : Int)
  have hb2 := edg_bd (n := (M : Int)) (by omega) (by omega)
  have hlt : eN hi + lo < eN M := by omega
  have h136 : eN hi + lo < 136 := by omega
  rw [putK_get (by rw [zbl_len]; exact h136), if_pos hlt, turnL_get h136, Int.toNat_natCast]
theorem nbB_self (bs : List Nat) (c : Int) (p : Nat) : nbB bs (p : Int) c p = false := by unfold nbB; simp
theorem avP_paint {M : Nat} {bs : List Nat} (hb : Bys bs) (hM : M ≤ 17) (zs : List Int) (K : Nat) : avP M (paintB M fun l h => colAt bs ((upL M).getD l 0) ((upL M).getD h 0)) zs K = avP M bs zs K := by
  obtain ⟨pb, hpb⟩ : ∃ pb, pb = paintB M fun l h => colAt bs ((upL M).getD l 0) ((upL M).getD h 0) := ⟨_, rfl⟩
  have hcol : ∀ lo hi, lo < hi → hi < M → colAt pb (lo : Int) (hi : Int) = colAt bs (lo : Int) (hi : Int) := fun lo hi h1 h2 => by rw [hpb]; exact colAt_paint hb hM h1 h2
  rw [← hpb]
  have hR : ∀ (c : Int) p, p < M → rwN pb c M p = rwN bs c M p := fun c p hp => by
    apply Nat.eq_of_testBit_eq
    intro q
    unfold rwN
    rw [arK_bit, arK_bit]
    by_cases hq : q < M
    · by_cases e : p = q
      · subst e; rw [nbB_self, nbB_self]
      · rw [nbB_ne e, nbB_ne e]
        rcases Nat.lt_or_gt_of_ne e with h | h
        · rw [hcol p q h hq]
        · have e1 : colAt pb (p : Int) (q : Int) = colAt pb (q : Int) (p : Int) := by unfold colAt; rw [eix_comm (by omega)]
          have e2 : colAt bs (p : Int) (q : Int) = colAt bs (q : Int) (p : Int) := by unfold colAt; rw [eix_comm (by omega)]
          rw [e1, e2, hcol q p h hp]
    · rw [decide_eq_false hq]; rfl
  unfold avP
  congr 1
  funext c
  rw [clqL_has, clqL_has, hasK_congr (F := 0) (hR (c : Int))]
def RelLb (C : Array Value) (w : World) (m : Nat) (v : Value) (wr : World) : Prop :=
  wr.ownsRow (w.heap.size + 1) 2 1 v (upL m).length (icells (upL m)) ∧ Blk wr w.heap.size C 28 ∧ Below w.heap.size w wr
set_option maxRecDepth 100000 in
set_option maxHeartbeats 4000000 in
theorem spec40 (n k : Int) (bs : List Nat) (hb : Bys bs) (zs : List Int) (a : Option Addr) (cap : Nat) (w : World) (hs : SlI w a zs) (hl : zs.length ≤ 1048576) :
    Calls Tryd.prog 40 #[.agg (ccells n k bs).toArray, .slice a zs.length cap] w fun e w' => e = .returned (.tuple #[.int .i64 (lgV n k bs zs), .int .i64 (szCode n k bs zs)]) ∧ Below w.heap.size w w' := by
  have HS := hidd (size_c26 n k hb)
  have HSL := hidd hs
  have HCO := hidd (fun W h => code42 n k bs hb zs a cap W h hl)
  have HC0 := hidd (show (ccells n k bs).toArray[0]? = some (.int .i64 n) from rfl)
  have HG := hidd (And.intro (Blk.new w (ccells n k bs).toArray 28 _ rfl) ((Below.refl w.heap.size w).alloc (Nat.le_refl _) (.cells (ccells n k bs).toArray 28)))
  obtain ⟨t0, hi2, hz0, hz1, hz3⟩ := info_parts info2
  have HIF := hidd (And.intro hi2 (And.intro hz0 (And.intro hz1 hz3)))
  clear hi2 hz0 hz1 hz3
  obtain ⟨cd, hcd⟩ : ∃ cd, cd = szCode n k bs zs := ⟨_, rfl⟩
  rw [← hcd] at HCO ⊢
  clear hs
  by_cases h0 : cd = 0
  · have hc0 := hcd.symm.trans h0
    obtain ⟨hi, ho⟩ := szCode_ok hc0
    obtain ⟨n1, n2, k1, k2⟩ := isCol_bd hi
    obtain ⟨hlk, hsp⟩ := szOk_bd ho
    obtain ⟨N, rfl⟩ := Int.eq_ofNat_of_zero_le (show 0 ≤ n by omega)
    obtain ⟨K, rfl⟩ := Int.eq_ofNat_of_zero_le (show 0 ≤ k by omega)
    have hlK : zs.length = K := by omega
    have hv : lgV (N : Int) (K : Int) bs zs = (lbN N bs zs K : Int) := by unfold lgV; rw [if_pos hc0]; rfl
    rw [hv, hlK]
    rw [hlK] at HCO hsp
    have HSP := hidd hsp
    have HLK := hidd hlK
    have hN17 : N ≤ 17 := by omega
    have hK4 : K ≤ 4 := by omega
    have hN1 : 1 ≤ N := by omega
    clear hv hcd hc0 hi ho hlk hsp hlK hl
    subst h0
    go_enter Tryd.func40, Tryd.ntmps40
    obtain ⟨W0, hW0⟩ : ∃ W0, W0 = w.alloc (.cells (ccells (N : Int) (K : Int) bs).toArray 28) := ⟨_, rfl⟩
    rw [← hW0] at HG
    go_upto_region 1 with fail
    rw [← hW0]
    clear hW0
    go_wp2_with (refine wpList_load_row rfl 28 (.tmp 2) rfl w.heap.size rfl 28 _ (0,0) _ HG.out.1 Tryd.underlying28 rfl HS.out ?_)
    refine (HCO.out _ (HSL.out.below HG.out.2 (Nat.le_refl _))).mono ?_
    rintro e w1 ⟨rfl, hb1⟩
    have g1 := HG.out.1.below hb1 HG.out.1.lt
    have g2 := HG.out.2.trans (hb1.mono HG.out.2.size)
    have G := hidd (show RelLb (ccells (N : Int) (K : Int) bs).toArray w 0 (.slice (some ⟨w1.heap.size, 0, none⟩) 0 0) (w1.alloc (.cells #[] 2)) from
      ⟨⟨rfl, .inr ⟨w1.heap.size, 0, #[], rfl, g1.lt, Blk.new _ _ _ _ rfl, Nat.le_refl _, by simp [maxLen], rfl, rfl⟩⟩, g1.alloc _, g2.alloc g2.size _⟩)
    clear hb1 g1 g2
    go_wp2_with fail
    go_loopw [7, 8] (fun v e wr => ∃ m : Nat, m ≤ N ∧ e = .int .i64 (m : Int) ∧ Hid ((∀ j, j < m → lbP bs zs K j = false) ∧ RelLb (ccells (N : Int) (K : Int) bs).toArray w m v wr)) (fun _ e _ => N - (intOf e).toNat)
    case atStart => exact ⟨0, Nat.zero_le _, rfl, fun j hj => by omega, G.out⟩
    case round =>
      obtain ⟨m, hm, rfl, HK⟩ := hrel
      have c0 := HK.out.2.2.1.cell HC0.out
      by_cases hlt : m < N
      · have hltI : decide ((m : Int) < (N : Int)) = true := by simp; omega
        obtain ⟨av, cv, rfl, _⟩ := own_list HK.out.2.1
        have hml := upL_len m
        have HA := hidd (own_below HK.out.2.1 ((Below.refl wr.heap.size wr).alloc (Nat.le_refl _) (.cells #[.int .i64 (m : Int)] 2)) (Nat.le_refl _))
        go_wp2_with (at_builtin; refine wpList_append_own _ rfl _ _ 25 rfl (w.heap.size + 1) 2 t0 (.int .i64 0) 1 8 Tryd.underlying25 HIF.out.1 HIF.out.2.1 HIF.out.2.2.1 HIF.out.2.2.2 rfl (by decide) _ _ _ rfl HA.out ⟨wr.heap.size, 0, none⟩ 1 1 [.int .i64 (m : Int)] rfl rfl ?c1 ?c2 ?c3 ?c4 ?c5 ?_)
        case c1 => exact one_new _ _ _
        case c2 => intro u hu; simp at hu; subst hu; rfl
        case c3 => unfold maxLen; omega
        case c4 => omega
        case c5 => have := HK.out.2.2.1.lt; simp; omega
        intro v' Y hown' hgrow _
        have hL2 : m + 1 = (upL (m + 1)).length := by rw [upL_len]
        have hX2 : icells (upL m) ++ [.int .i64 (m : Int)] = icells (upL (m + 1)) := by rw [upL_snoc, icells_app]; rfl
        rw [hX2] at hown'
        have hown2 : Y.ownsRow (w.heap.size + 1) 2 1 v' (upL (m + 1)).length (icells (upL (m + 1))) := by rw [← hL2]; exact hown'
        clear hown'
        have hown' := hown2
        clear hown2
        obtain ⟨aN, cN, rfl, hO⟩ := own_list hown'
        have hbA : Below wr.heap.size wr (wr.alloc (.cells #[.int .i64 (m : Int)] 2)) := (Below.refl wr.heap.size wr).alloc (Nat.le_refl _) _
        have hlt0 := HK.out.2.2.1.lt
        have hbY : Below (w.heap.size + 1) (wr.alloc (.cells #[.int .i64 (m : Int)] 2)) Y := grown_plain HA.out (by rw [hml]; exact hgrow) (by simp; omega)
        have k1 : Blk Y w.heap.size (ccells (N : Int) (K : Int) bs).toArray 28 := (HK.out.2.2.1.below hbA HK.out.2.2.1.lt).below hbY (by omega)
        have k2 : Below w.heap.size w Y := (HK.out.2.2.2.trans (hbA.mono HK.out.2.2.2.size)).trans (hbY.mono (by omega))
        have hlm1 := upL_len (m + 1)
        have HPS := hidd (fun W h => part68 (N : Int) (K : Int) bs hb (upL (m + 1)) aN cN W h (by omega) (by omega) (upL_set (by omega)) (by omega))
        have hpb : Bys (paintB (m + 1) fun lo hi => colAt bs ((upL (m + 1)).getD lo 0) ((upL (m + 1)).getD hi 0)) := paintB_bys fun lo hi => colAt_bd hb _ _
        have hpv := avP_paint (M := m + 1) hb (by omega) zs K
        rw [hlm1] at HPS
        have hO1 := hO.sl
        rw [hlm1] at hown'
        obtain ⟨pb, hpe⟩ : ∃ pb, pb = paintB (m + 1) fun lo hi => colAt bs ((upL (m + 1)).getD lo 0) ((upL (m + 1)).getD hi 0) := ⟨_, rfl⟩
        rw [← hpe] at HPS hpb hpv
        have HAV := hidd (fun W h => avoids44 (m + 1) K pb hpb zs a cap W h HLK.out (by omega) (by omega) (by omega) HSP.out)
        rw [hpv] at HAV
        obtain ⟨v, hve⟩ : ∃ v, v = avP (m + 1) bs zs K := ⟨_, rfl⟩
        rw [← hve] at HAV
        obtain ⟨P2, hP2⟩ : ∃ P2, P2 = (ccells ((m + 1 : Nat) : Int) (K : Int) pb).toArray := ⟨_, rfl⟩
        rw [← hP2] at HPS HAV
        have HY := hidd (And.intro k1 (And.intro k2 (And.intro hown' hO1)))
        have HVE := hidd hve
        rw [hlm1]
        clear hL2 hX2 hown' hgrow hO hbA hbY k1 k2 hpb hpv hpe hve hP2 hO1 hlm1 c0
        go_wp2_with (refine wpList_load_row rfl 28 (.tmp 2) rfl w.heap.size rfl 28 _ (0,0) _ HY.out.1 Tryd.underlying28 rfl HS.out ?_)
        refine (HPS.out _ HY.out.2.2.2).mono ?_
        rintro e w5 ⟨rfl, hb5⟩
        have L5 := hidd (And.intro (HY.out.1.below hb5 HY.out.1.lt) (And.intro (HY.out.2.1.trans (hb5.mono HY.out.2.1.size)) (own_below HY.out.2.2.1 hb5 (Nat.le_refl _))))
        clear hb5
        go_wp2_with fail
        refine (HAV.out _ (HSL.out.below L5.out.2.1 (Nat.le_refl _))).mono ?_
        rintro e w6 ⟨rfl, hb6⟩
        have L6 := hidd (And.intro (L5.out.1.below hb6 L5.out.1.lt) (And.intro (L5.out.2.1.trans (hb6.mono L5.out.2.1.size)) (own_below L5.out.2.2 hb6 (Nat.le_refl _))))
        clear hb6
        cases v with
        | true =>
          have HP := hidd (show lbP bs zs K m = false by unfold lbP; rw [← HVE.out]; rfl)
          go_wp2_with fail
          go_roundw
          case rel => exact ⟨m + 1, by omega, by go_num, fun j hj => by
              by_cases e : j = m
              · subst e; exact HP.out
              · exact HK.out.1 j (by omega), by
              unfold RelLb
              rw [upL_len]
              exact ⟨L6.out.2.2, L6.out.1, L6.out.2.1⟩⟩
          case measure => simp [intOf]; omega
        | false =>
          have HE := hidd (show lbN N bs zs K = m from fst_eq hlt (show lbP bs zs K m = true by unfold lbP; rw [← HVE.out]; rfl) HK.out.1)
          go_wp2_with fail
          go_ret2
          exact ⟨by rw [HE.out]; rfl, L6.out.2.1⟩
      · have hltI : decide ((m : Int) < (N : Int)) = false := by simp; omega
        have hme : m = N := by omega
        have HE := hidd (show lbN N bs zs K = N from fst_none (by rw [← hme]; exact HK.out.1))
        clear hme
        go_wp2_with fail
        go_ret2
        exact ⟨by rw [HE.out]; rfl, HK.out.2.2.2⟩
  · have hv : lgV n k bs zs = 0 := by unfold lgV; rw [if_neg (by rw [← hcd]; exact h0)]
    have hnz : (cd != 0) = true := by rw [bne_iff_ne]; exact h0
    rw [hv]
    clear hv hcd
    go_enter Tryd.func40, Tryd.ntmps40
    go_wp2_with (refine wpList_load_row rfl 28 (.tmp 2) rfl w.heap.size rfl 28 _ (0,0) _ (Blk.new _ _ _ _ rfl) Tryd.underlying28 rfl HS.out ?_)
    refine (HCO.out _ (HSL.out.below HG.out.2 (Nat.le_refl _))).mono ?_
    rintro e w1 ⟨rfl, hb1⟩
    have g2 := hidd (HG.out.2.trans (hb1.mono HG.out.2.size))
    clear hb1
    go_wp2_with fail
    go_ret2
    exact ⟨rfl, g2.out⟩
end Go.Proofs.YtckffliiidgilaaDoor
