/- JoinColours: its model. -/
import Derived.Test.YtpjegmmichjlbaaJoin
import Derived.Test.YtpjegmmichjlbaaTakeIm
namespace Go.Proofs.Ytpjegmmichjlbaa
set_option linter.unusedVariables false
set_option linter.unusedSimpArgs false
open Go Go.RowKit
def qL (c d : Int) (m : Nat) : List Int := (List.range m).map fun (o : Nat) => jq c d (o : Int)
theorem qL_len (c d : Int) (m : Nat) : (qL c d m).length = m := by simp [qL]
theorem qL_snoc (c d : Int) (m : Nat) : qL c d (m + 1) = qL c d m ++ [jq c d (m : Int)] := by simp [qL, List.range_succ]
theorem qL_get {c d : Int} {m i : Nat} (h : i < m) : (qL c d m).getD i 0 = jq c d (i : Int) := by simp [qL, List.getD, h]
def RelJ (c d : Int) (C Z : Array Value) (w : World) (j : Nat) (v : Value) (wr : World) : Prop :=
  Blk wr w.heap.size C 29 ∧ Blk wr (w.heap.size + 1) Z 29 ∧ wr.ownsRow (w.heap.size + 1 + 1) 2 1 v (qL c d j).length (icells (qL c d j)) ∧ Below w.heap.size w wr
theorem jc_paint {N : Nat} {k : Int} {bs : List Nat} {K : Nat} (hb : Bys bs) (hi : isCol (N : Int) k bs = true) (hk : (K : Int) = k) (c d : Int) :
    paintB N (fun lo hi => (qL c d K).getD (colAt bs lo hi).toNat 0) = paintB N (fun lo hi => jq c d (colAt bs lo hi)) := by
  have hbd := isCol_bd hi
  refine paint_congr fun lo hi' h1 h2 => ?_
  have h0 := (colAt_bd hb lo hi').1
  have he := colAt_eN bs h1
  have hm := eN_mono (a := hi' + 1) (b := N) (by omega)
  have h17 := eN_17 (n := N) (by omega)
  have hs : eN (hi' + 1) = eN hi' + hi' := rfl
  have := col_lo hi (i := eN hi' + lo) (by rw [← eN_edg]; omega) (by omega)
  rw [qL_get (by omega)]
  congr 1
set_option maxRecDepth 100000 in
set_option maxHeartbeats 4000000 in
theorem spec21 (n k : Int) (bs : List Nat) (hb : Bys bs) (c d : Int) (w : World) :
    Calls Try.prog 21 #[.agg (ccells n k bs).toArray, .int .i64 c, .int .i64 d] w fun e w' => e = .returned (jcOut n k bs c d) ∧ Below w.heap.size w w' := by
  have HS := hidd (size_c26 n k hb)
  have Hz := zero26
  have HZS := hidd size_z26
  have HZ1 := hidd (ccells_one 0 0 zbl)
  have HC1 := hidd (show (ccells n k bs).toArray[1]? = some (.int .i64 k) from rfl)
  have hmk : ∀ w0, w0 = (w.alloc (.cells (ccells n k bs).toArray 29)).alloc (.cells (ccells 0 0 zbl).toArray 29) → ∀ w1, Below w0.heap.size w0 w1 →
      Blk w1 w.heap.size (ccells n k bs).toArray 29 ∧ Blk w1 (w.heap.size + 1) (ccells 0 0 zbl).toArray 29 ∧ Below w.heap.size w w1 := by
    rintro w0 rfl w1 hb1
    have hb := ((Below.refl w.heap.size w).alloc (Nat.le_refl _) (.cells (ccells n k bs).toArray 29)).alloc (by simp) (.cells (ccells 0 0 zbl).toArray 29)
    have hbl := hb.trans (hb1.mono (by simp; omega))
    exact ⟨((Blk.new _ _ _ _ rfl).alloc _).below hb1 (by simp; omega), (Blk.new _ _ _ _ (by simp)).below hb1 (by simp), hbl⟩
  have HMK := hidd hmk
  clear hmk
  by_cases hg : given n k bs c [] = 0
  · obtain ⟨hi, hcb⟩ : isCol n k bs = true ∧ belowB c k = true := by
      cases hi : isCol n k bs with
      | false => rw [given_1 hi] at hg; cases hg
      | true =>
        cases hp : belowB c k with
        | false => rw [given_2 hi (by rw [hp]; rfl)] at hg; cases hg
        | true => exact ⟨rfl, rfl⟩
    have hbd := isCol_bd hi
    have hcc := inB_bd hcb
    have HG := hidd hg
    cases hin : inB d (c + 1) (k - 1) with
    | false =>
      have hset : setB [c, d] k = false := by
        have h1 := inB_out hin
        rw [set2, Bool.and_assoc, Bool.and_eq_false_iff]
        by_cases h : c < d
        · right; rw [Bool.and_eq_false_iff]; right
          exact inB_no (by omega)
        · left; simpa using h
      have H := hidd (jcOut_bad (jcCode_2 hi hset) (by omega))
      have HIN := hidd hin
      clear hi hset hg hin hcb
      go_enter Try.func21, Try.ntmps21
      go_wp2_with (refine wpList_load_row rfl 29 (.tmp 3) rfl w.heap.size rfl 29 _ (0,0) _ (((Blk.new _ _ _ _ rfl).alloc _)) Try.underlying29 rfl HS.out ?_)
      refine (given56 n k bs hb c [] none 0 _ (.inl rfl) (by simp)).mono ?_
      rintro e w1 ⟨rfl, hb1⟩
      rw [HG.out]
      have G := hidd (HMK.out _ rfl _ hb1)
      have R := hidd (And.intro G.out.2.1 (And.intro (G.out.2.1.rowSame (ccells 0 0 zbl).toArray) (below_setRow G.out.2.2 (g := w.heap.size + 1) (by omega) (ccells 0 0 zbl).toArray)))
      have c1 := G.out.1.cell HC1.out
      clear hb1
      go_wp2_with (first
        | (go_at_call 39; refine (in49 _ _ _ _).mono ?_; rintro e w' ⟨rfl, rfl⟩; rw [HIN.out])
        | (refine wpList_zero26 rfl rfl ?_)
        | (refine wpList_store_row rfl 29 (.tmp 6) (.tmp 29) rfl (w.heap.size + 1) _ rfl rfl 29 _ R.out.1 HZS.out rfl HZ1.out ?_))
      exact ret_col rfl zbl_bys rfl R.out.2.1 rfl rfl ⟨by rw [H.out]; rfl, R.out.2.2⟩
    | true =>
      have hid := inB_bd hin
      have hset : setB [c, d] k = true := by
        rw [set2, Bool.and_eq_true, Bool.and_eq_true]
        exact ⟨⟨decide_eq_true (by omega), hcb⟩, inB_yes (by omega) (by omega)⟩
      have H := hidd (jcOut_good (jcCode_0 hi hset))
      have HIN := hidd hin
      obtain ⟨N, rfl⟩ := Int.eq_ofNat_of_zero_le (show 0 ≤ n by omega)
      obtain ⟨K, rfl⟩ := Int.eq_ofNat_of_zero_le (show 0 ≤ k by omega)
      rw [Int.toNat_natCast, ← jc_paint hb hi rfl c d] at H
      obtain ⟨PB, hPB⟩ : ∃ PB, PB = paintB N (fun lo hi => (qL c d K).getD (colAt bs lo hi).toNat 0) := ⟨_, rfl⟩
      have hzb : ∀ j, j < (qL c d K).length → 0 ≤ (qL c d K).getD j 0 ∧ (qL c d K).getD j 0 < 256 := fun j hj => by
        rw [qL_len] at hj
        rw [qL_get hj]
        exact jq_bd (by omega) (by omega) (by omega)
      have HPB := hidd (show Bys PB by
        rw [hPB]
        refine paintB_bys fun lo hi => ?_
        by_cases h : (colAt bs lo hi).toNat < (qL c d K).length
        · exact hzb _ h
        · rw [List.getD, List.getElem?_eq_none (by omega)]; simp)
      have HT := hidd (fun zs (hz : zs = qL c d K) a cap w hs => turn52 (N : Int) (K : Int) bs hb zs a cap w hs hi (by rw [hz, qL_len]) (by rw [hz]; exact hzb))
      rw [← hPB] at H
      have HPE := hidd hPB
      have HPS := hidd (size_c26 (N : Int) (K : Int) HPB.out)
      have HPO := hidd (size_cc 0 0 (N : Int) (K : Int) zbl_bys HPB.out)
      have HPA := hidd (ccells_one (N : Int) (K : Int) PB)
      have HQS := hidd (size_c26 (N : Int) ((K : Int) - 1) HPB.out)
      have HQO := hidd (size_cc 0 0 (N : Int) ((K : Int) - 1) zbl_bys HPB.out)
      have HQA := hidd (ccells_one (N : Int) ((K : Int) - 1) PB)
      obtain ⟨t0, hi2, hz0, hz1, hz2⟩ := info_parts info2
      have HIF := hidd (And.intro hi2 (And.intro hz0 (And.intro hz1 hz2)))
      clear hi hset hg hin hcb hzb hPB hi2 hz0 hz1 hz2
      go_enter Try.func21, Try.ntmps21
      go_wp2_with (refine wpList_load_row rfl 29 (.tmp 3) rfl w.heap.size rfl 29 _ (0,0) _ (((Blk.new _ _ _ _ rfl).alloc _)) Try.underlying29 rfl HS.out ?_)
      refine (given56 (N : Int) (K : Int) bs hb c [] none 0 _ (.inl rfl) (by simp)).mono ?_
      rintro e w1 ⟨rfl, hb1⟩
      rw [HG.out]
      have G := hidd (HMK.out _ rfl _ hb1)
      have c1 := G.out.1.cell HC1.out
      clear hb1
      go_wp2_with (go_at_call 39; refine (in49 _ _ _ _).mono ?_; rintro e w' ⟨rfl, rfl⟩; rw [HIN.out])
      clear c1
      go_loopw [9, 10] (fun v e wr => ∃ j : Nat, j ≤ K ∧ e = .int .i64 j ∧ RelJ c d (ccells (N : Int) (K : Int) bs).toArray (ccells 0 0 zbl).toArray w j v wr) (fun _ e _ => K - (intOf e).toNat)
      case atStart =>
        have := G.out.2.1.lt
        refine ⟨0, by omega, rfl, G.out.1.alloc _, G.out.2.1.alloc _, ⟨rfl, .inr ⟨w1.heap.size, 0, #[], rfl, by omega, ?_, ?_, ?_, rfl, rfl⟩⟩, G.out.2.2.alloc G.out.2.2.size _⟩
        · exact Blk.new _ _ _ _ rfl
        · simp [qL]
        · simp [maxLen]
      case round =>
        obtain ⟨j, hj, rfl, HR⟩ := hrel
        have c1 := HR.1.cell HC1.out
        by_cases hlt : j < K
        · have HK := hidd HR
          clear HR
          have hown := HK.out.2.2.1
          have hlen := qL_len c d j
          have hsz := HK.out.2.2.2.size
          have hszC := HK.out.2.1.lt
          have hq := qL_snoc c d j
          by_cases h1 : (j : Int) < d
          · rw [jq_lt h1] at hq
            have HH := hidd hq
            clear hq
            go_wp2_with (at_builtin; refine wpList_append_own _ rfl _ _ 38 rfl (w.heap.size + 1 + 1) 2 t0 (.int .i64 0) 1 8 Try.underlying38 HIF.out.1 HIF.out.2.1 HIF.out.2.2.1 HIF.out.2.2.2 rfl (by decide) _ _ _ rfl (hown.alloc _) ⟨wr.heap.size, 0, none⟩ 1 1 [.int .i64 (j : Int)] rfl rfl ?c1 ?c2 ?c3 ?c4 ?c5 ?_)
            case c1 => exact one_new _ _ _
            case c2 => intro u hu; simp at hu; subst hu; rfl
            case c3 => unfold maxLen; omega
            case c4 => omega
            case c5 => simp; omega
            intro v' w2 hown' hgrow _
            have K3 := hidd (show RelJ c d (ccells (N : Int) (K : Int) bs).toArray (ccells 0 0 zbl).toArray w (j + 1) v' w2 from ⟨HK.out.1.below (grown_step hown hgrow (by omega)) (by omega), HK.out.2.1.below (grown_step hown hgrow (by omega)) (by omega), by rw [HH.out, icells_app, List.length_append, qL_len]; exact hown', HK.out.2.2.2.trans ((grown_step hown hgrow (by omega)).mono (by omega))⟩)
            clear hown' hgrow hown c1
            go_wp2
            go_roundw
            case rel => exact ⟨j + 1, by omega, by go_num, K3.out⟩
            case measure => simp [intOf]; omega
          · by_cases h2 : (j : Int) = d
            · rw [jq_eq h2] at hq
              have HH := hidd hq
              have hle : d ≤ (j : Int) := by omega
              have heq : ((j : Int) == d) = true := by simpa using h2
              clear hq h1 h2
              go_wp2_with (at_builtin; refine wpList_append_own _ rfl _ _ 38 rfl (w.heap.size + 1 + 1) 2 t0 (.int .i64 0) 1 8 Try.underlying38 HIF.out.1 HIF.out.2.1 HIF.out.2.2.1 HIF.out.2.2.2 rfl (by decide) _ _ _ rfl (hown.alloc _) ⟨wr.heap.size, 0, none⟩ 1 1 [.int .i64 c] rfl rfl ?c1 ?c2 ?c3 ?c4 ?c5 ?_)
              case c1 => exact one_new _ _ _
              case c2 => intro u hu; simp at hu; subst hu; rfl
              case c3 => unfold maxLen; omega
              case c4 => omega
              case c5 => simp; omega
              intro v' w2 hown' hgrow _
              have K3 := hidd (show RelJ c d (ccells (N : Int) (K : Int) bs).toArray (ccells 0 0 zbl).toArray w (j + 1) v' w2 from ⟨HK.out.1.below (grown_step hown hgrow (by omega)) (by omega), HK.out.2.1.below (grown_step hown hgrow (by omega)) (by omega), by rw [HH.out, icells_app, List.length_append, qL_len]; exact hown', HK.out.2.2.2.trans ((grown_step hown hgrow (by omega)).mono (by omega))⟩)
              clear hown' hgrow hown c1
              go_wp2
              go_roundw
              case rel => exact ⟨j + 1, by omega, by go_num, K3.out⟩
              case measure => simp [intOf]; omega
            · rw [jq_gt (by omega)] at hq
              have HH := hidd hq
              have hgt : d < (j : Int) := by omega
              have heq : ((j : Int) == d) = false := by rw [beq_eq_false_iff_ne]; exact h2
              clear hq h1 h2
              go_wp2_with (at_builtin; refine wpList_append_own _ rfl _ _ 38 rfl (w.heap.size + 1 + 1) 2 t0 (.int .i64 0) 1 8 Try.underlying38 HIF.out.1 HIF.out.2.1 HIF.out.2.2.1 HIF.out.2.2.2 rfl (by decide) _ _ _ rfl (hown.alloc _) ⟨wr.heap.size, 0, none⟩ 1 1 [.int .i64 ((j : Int) - 1)] rfl rfl ?c1 ?c2 ?c3 ?c4 ?c5 ?_)
              case c1 => exact one_new _ _ _
              case c2 => intro u hu; simp at hu; subst hu; rfl
              case c3 => unfold maxLen; omega
              case c4 => omega
              case c5 => simp; omega
              intro v' w2 hown' hgrow _
              have K3 := hidd (show RelJ c d (ccells (N : Int) (K : Int) bs).toArray (ccells 0 0 zbl).toArray w (j + 1) v' w2 from ⟨HK.out.1.below (grown_step hown hgrow (by omega)) (by omega), HK.out.2.1.below (grown_step hown hgrow (by omega)) (by omega), by rw [HH.out, icells_app, List.length_append, qL_len]; exact hown', HK.out.2.2.2.trans ((grown_step hown hgrow (by omega)).mono (by omega))⟩)
              clear hown' hgrow hown c1
              go_wp2
              go_roundw
              case rel => exact ⟨j + 1, by omega, by go_num, K3.out⟩
              case measure => simp [intOf]; omega
        · have hje : j = K := by omega
          subst hje
          obtain ⟨a, cap, rfl, ho⟩ := own_list HR.2.2.1
          have HK := hidd (And.intro HR.1 (And.intro HR.2.1 (And.intro ho.sl HR.2.2.2)))
          clear HR ho
          go_wp2_with (refine wpList_load_row rfl 29 (.tmp 3) rfl w.heap.size rfl 29 _ (0,0) _ HK.out.1 Try.underlying29 rfl HS.out ?_)
          refine (HT.out _ rfl a cap _ HK.out.2.2.1).mono ?_
          rintro e w2 ⟨he, hb2⟩
          rw [Int.toNat_natCast, ← HPE.out] at he
          subst he
          have z2 := HK.out.2.1.below hb2 HK.out.2.1.lt
          have b2 := HK.out.2.2.2.trans (hb2.mono HK.out.2.2.2.size)
          have hzl := z2.lt
          clear hb2 c1
          obtain ⟨W3, hW3⟩ : ∃ W3, W3 = (w2.alloc (.cells (ccells 0 0 zbl).toArray 29)).setRow w2.heap.size (ccells (N : Int) (j : Int) PB).toArray := ⟨_, rfl⟩
          have x3 : Blk W3 w2.heap.size (ccells (N : Int) (j : Int) PB).toArray 29 := by rw [hW3]; exact (Blk.new _ _ _ _ rfl).rowSame _
          have z3 : Blk W3 (w.heap.size + 1) (ccells 0 0 zbl).toArray 29 := by rw [hW3]; exact (z2.alloc _).rowOther _ _ (by omega)
          have b3 : Below w.heap.size w W3 := by rw [hW3]; exact below_setRow (b2.alloc b2.size _) b2.size _
          have cK := x3.cell (j := 1) (show _ = some (Value.int .i64 (j : Int)) from rfl)
          have fK := x3.fro 1
          have x4 := x3.same 1 (.int .i64 ((j : Int) - 1))
          rw [ccells_set1] at x4
          have z4 := z3.other ⟨w2.heap.size, 1, none⟩ (.int .i64 ((j : Int) - 1)) (by show w.heap.size + 1 ≠ w2.heap.size; omega)
          have b4 := b3.setCell (p := ⟨w2.heap.size, 1, none⟩) (by show w.heap.size ≤ w2.heap.size; omega) (.int .i64 ((j : Int) - 1))
          have R := hidd (And.intro x4 (And.intro z4 (And.intro (z4.rowSame (ccells (N : Int) ((j : Int) - 1) PB).toArray) (below_setRow b4 (g := w.heap.size + 1) (by omega) (ccells (N : Int) ((j : Int) - 1) PB).toArray))))
          clear x3 z3 b3 z2 b2 x4 z4 b4
          go_wp2_with (first
            | (refine wpList_store_row rfl 29 (.tmp 11) (.tmp 61) rfl w2.heap.size _ rfl rfl 29 _ (Blk.new _ _ _ _ rfl) HPS.out HPO.out HPA.out ?_; rw [← hW3]; clear hW3)
            | (refine wpList_load_row rfl 29 (.tmp 11) rfl w2.heap.size rfl 29 _ (0,0) _ R.out.1 Try.underlying29 rfl HQS.out ?_)
            | (refine wpList_store_row rfl 29 (.tmp 6) (.tmp 66) rfl (w.heap.size + 1) _ rfl rfl 29 _ R.out.2.1 HQS.out HQO.out HQA.out ?_))
          exact ret_col rfl HPB.out rfl R.out.2.2.1 rfl rfl ⟨by rw [H.out]; rfl, R.out.2.2.2⟩
  · obtain ⟨m, hm, hm0, hg2⟩ : ∃ m, jcCode n k bs c d = m ∧ m ≠ 0 ∧ given n k bs c [] = m := by
      cases hi : isCol n k bs with
      | false => exact ⟨1, jcCode_1 hi, by omega, given_1 hi⟩
      | true =>
        cases hp : belowB c k with
        | false =>
          refine ⟨2, jcCode_2 hi ?_, by omega, given_2 hi (by rw [hp]; rfl)⟩
          rw [set2, hp]; simp
        | true => exact absurd (given_0 hi hp rfl) hg
    have H := hidd (jcOut_bad hm hm0)
    have HG := hidd hg2
    have hq0 : (m == 0) = false := by rw [beq_eq_false_iff_ne]; exact hm0
    have hq1 : (m != 0) = true := by rw [bne_iff_ne]; exact hm0
    clear hm hm0 hg hg2
    go_enter Try.func21, Try.ntmps21
    go_wp2_with (refine wpList_load_row rfl 29 (.tmp 3) rfl w.heap.size rfl 29 _ (0,0) _ (((Blk.new _ _ _ _ rfl).alloc _)) Try.underlying29 rfl HS.out ?_)
    refine (given56 n k bs hb c [] none 0 _ (.inl rfl) (by simp)).mono ?_
    rintro e w1 ⟨rfl, hb1⟩
    rw [HG.out]
    have G := hidd (HMK.out _ rfl _ hb1)
    have R := hidd (And.intro G.out.2.1 (And.intro (G.out.2.1.rowSame (ccells 0 0 zbl).toArray) (below_setRow G.out.2.2 (g := w.heap.size + 1) (by omega) (ccells 0 0 zbl).toArray)))
    clear hb1
    go_wp2_with (first
      | (refine wpList_zero26 rfl rfl ?_)
      | (refine wpList_store_row rfl 29 (.tmp 6) (.tmp 29) rfl (w.heap.size + 1) _ rfl rfl 29 _ R.out.1 HZS.out rfl HZ1.out ?_))
    exact ret_col rfl zbl_bys rfl R.out.2.1 rfl rfl ⟨by rw [H.out]; rfl, R.out.2.2⟩
end Go.Proofs.Ytpjegmmichjlbaa
