/- UpLengths: the model. -/
import Derived.Test.YtmeihpakbhfipaaDoorOrs
import Derived.Test.YtmeihpakbhfipaaDoorUlq
namespace Go.Proofs.YtmeihpakbhfipaaDoor
set_option linter.unusedVariables false
set_option linter.unusedSimpArgs false
open Go Go.RowKit Go.Shelf
set_option maxRecDepth 100000 in
set_option maxHeartbeats 4000000 in
theorem spec8 (n k : Int) (bs : List Nat) (hb : Bys bs) (c : Int) (w : World) :
    Calls Tryd.prog 8 #[.agg (ccells n k bs).toArray, .int .i64 c] w (LOut w (ulL n k bs c) (given n k bs c [])) := by
  have HS := hidd (size_c26 n k hb)
  have HC0 := hidd (show (ccells n k bs).toArray[0]? = some (.int .i64 n) from rfl)
  have HA := hidd (show RelKl (ccells n k bs).toArray w (w.alloc (.cells (ccells n k bs).toArray 28)) from ⟨Blk.new w (ccells n k bs).toArray 28 _ rfl, (Below.refl w.heap.size w).alloc (Nat.le_refl _) _⟩)
  have HG := hidd (fun W => given56 n k bs hb c [] none 0 W (.inl rfl) (by simp))
  by_cases hg : given n k bs c [] = 0
  · obtain ⟨hi, hcb⟩ := given_cases hg
    obtain ⟨n1, n2, k1, k2⟩ := isCol_bd hi
    have hv : ulL n k bs c = fl n.toNat (ulV bs c) := if_pos hg
    have HE := hidd (And.intro hv hg)
    obtain ⟨N, rfl⟩ := Int.eq_ofNat_of_zero_le (show 0 ≤ n by omega)
    rw [hg] at HG
    have N2 : N ≤ 17 := by omega
    obtain ⟨t0, hi2, hz0, hz1, hz3⟩ := info_parts info2
    have HIF := hidd (And.intro hi2 (And.intro hz0 (And.intro hz1 hz3)))
    have HAT := hidd (fun (i j : Nat) (hi : i < N) (hj : j < N) (hij : i ≠ j) W => at57 (N : Int) k bs hb (N : Int) (i : Int) (j : Int) W (by omega) (by omega) (by omega) (by omega) (by omega) (by omega))
    clear hi hcb hg hv n1 n2 hi2 hz0 hz1 hz3
    go_enter Tryd.func8, Tryd.ntmps8
    go_wp2_with (refine wpList_load_row rfl 28 (.tmp 2) rfl w.heap.size rfl 28 _ (0,0) _ HA.out.1 Tryd.underlying28 rfl HS.out ?_)
    refine (HG.out _).mono ?_
    rintro e w1 ⟨rfl, hb1⟩
    have G1 := hidd (HA.out.more hb1)
    clear hb1
    have HR0 := hidd (show RelOm (ccells (N : Int) k bs).toArray (ulV bs c) w 0 (.slice (some ⟨w1.heap.size, 0, none⟩) 0 0) (w1.alloc (.cells #[] 2)) from
      ⟨empty_at w1 (by have := G1.out.1.lt; omega), G1.out.1.alloc _, G1.out.2.alloc (by have := G1.out.2.size; omega) _⟩)
    go_wp2_with fail
    go_loopw [7, 8] (fun v e wr => ∃ j : Nat, j ≤ N ∧ e = .int .i64 (j : Int) ∧ RelOm (ccells (N : Int) k bs).toArray (ulV bs c) w j v wr) (fun _ e _ => N - (intOf e).toNat)
    case atStart => exact ⟨0, Nat.zero_le _, rfl, HR0.out⟩
    case round =>
      obtain ⟨j, hj, rfl, HR⟩ := hrel
      have c0 := HR.2.1.cell HC0.out
      have hsl := HR.1
      rw [← fl_len j (ulV bs c)] at hsl
      obtain ⟨al, capl, hv, ho⟩ := own_list (zs := fl j (ulV bs c)) (by rw [fl_len] at hsl ⊢; exact hsl)
      rw [fl_len] at hv
      subst hv
      have HK := hidd HR
      clear HR hsl ho
      by_cases hlt : j < N
      · go_wp2_with fail
        clear c0
        go_loopw [9, 10] (fun o e wr => ∃ i : Nat, i ≤ j ∧ e = .int .i64 (i : Int) ∧ o = .int .i64 (ulM bs c (ulV bs c) j i) ∧ RelOm (ccells (N : Int) k bs).toArray (ulV bs c) w j (.slice al j capl) wr) (fun _ e _ => j - (intOf e).toNat)
        case atStart => exact ⟨0, Nat.zero_le _, rfl, rfl, HK.out⟩
        case round =>
          obtain ⟨i, hi, rfl, rfl, HR⟩ := hrel
          have HK2 := hidd HR
          have hmb := ulM_bd2 bs c j i
          have hmb2 := ulM_bd2 bs c j (i + 1)
          have HST := hidd (show ulM bs c (ulV bs c) j (i + 1) = if colAt bs (i : Int) (j : Int) = c then max (ulM bs c (ulV bs c) j i) (ulV bs c i + 1) else ulM bs c (ulV bs c) j i from rfl)
          clear HR
          by_cases hij : i < j
          · have A1 := hidd (HAT.out i j (by omega) (by omega) (by omega))
            have hvb := ulV_bd bs c i
            have HSLI := hidd (fun wX (h : RelOm (ccells (N : Int) k bs).toArray (ulV bs c) w j (.slice al j capl) wX) => (show ∃ b off, al = some ⟨b, off, none⟩ ∧ wX.cell? ⟨b, off + i, none⟩ = some (.int .i64 (ulV bs c i)) by
              obtain ⟨a', cap', e, ho⟩ := own_list (zs := fl j (ulV bs c)) (by rw [fl_len]; exact h.1)
              rw [fl_len] at e
              cases e
              rcases ho.sl with hz | ⟨b, off, ha, hc⟩
              · have := fl_len j (ulV bs c); rw [hz] at this; simp at this; omega
              · have := hc i (by rw [fl_len]; exact hij)
                rw [fl_get _ hij] at this
                exact ⟨b, off, ha, this⟩))
            generalize colAt bs (i : Int) (j : Int) = x at A1 HST
            obtain ⟨r, hr⟩ : ∃ r, r = ulM bs c (ulV bs c) j (i + 1) := ⟨_, rfl⟩
            have HRR := hidd hr
            rw [← hr] at HST hmb2
            clear hr
            generalize ulM bs c (ulV bs c) j i = m at HST hmb
            by_cases hx : x = c
            · have ex : (x == c) = true := by simpa using hx
              have HN := hidd (show r = if m < ulV bs c i + 1 then ulV bs c i + 1 else m by rw [HST.out, if_pos hx, mx_if])
              clear hx
              go_wp2_with (refine wpList_load_row rfl 28 (.tmp 2) rfl w.heap.size rfl 28 _ (0,0) _ HK2.out.2.1 Tryd.underlying28 rfl HS.out ?_)
              refine (A1.out _).mono ?_
              rintro e w5 ⟨rfl, hb3⟩
              have G5 := hidd (HK2.out.more hb3)
              obtain ⟨b, off, ha, hcell⟩ := HSLI.out _ G5.out
              subst ha
              generalize ulV bs c i = y at hcell HN hvb
              clear hb3
              go_wp2_with fail
              go_roundw
              case rel => exact ⟨i + 1, by omega, by go_num, by rw [← HRR.out, HN.out], G5.out⟩
              case measure => simp [intOf]; omega
            · have ex : (x == c) = false := by rw [beq_eq_false_iff_ne]; exact hx
              have HN := hidd (show r = m by rw [HST.out, if_neg hx])
              clear hx
              go_wp2_with (refine wpList_load_row rfl 28 (.tmp 2) rfl w.heap.size rfl 28 _ (0,0) _ HK2.out.2.1 Tryd.underlying28 rfl HS.out ?_)
              refine (A1.out _).mono ?_
              rintro e w5 ⟨rfl, hb3⟩
              have G5 := hidd (HK2.out.more hb3)
              clear hb3
              go_wp2_with fail
              go_roundw
              case rel => exact ⟨i + 1, by omega, by go_num, by rw [← HRR.out, HN.out], G5.out⟩
              case measure => simp [intOf]; omega
          · obtain rfl : i = j := by omega
            have HFX := hidd (ulV_eq bs c i).symm
            have hown := HK2.out.1
            have hsz := HK2.out.2.2.size
            have hlt2 := HK2.out.2.1.lt
            generalize ulM bs c (ulV bs c) i i = x at *
            go_wp2_with (at_builtin; refine wpList_append_own _ rfl _ _ 25 rfl (w.heap.size + 1) 2 t0 (.int .i64 0) 1 8 Tryd.underlying25 HIF.out.1 HIF.out.2.1 HIF.out.2.2.1 HIF.out.2.2.2 rfl (by decide) _ _ _ rfl (hown.alloc _) ⟨wr.heap.size, 0, none⟩ 1 1 [.int .i64 x] rfl rfl ?c1 ?c2 ?c3 ?c4 ?c5 ?_)
            case c1 => exact one_new _ _ _
            case c2 => intro u hu; simp at hu; subst hu; rfl
            case c3 => unfold maxLen; omega
            case c4 => omega
            case c5 => simp; omega
            intro v' w4 hown' hgrow _
            have K3 := hidd (HK2.out.snoc HFX.out hown' hgrow)
            clear hown' hgrow hown
            go_wp2
            go_roundw
            case rel => exact ⟨i + 1, by omega, by go_num, K3.out⟩
            case measure => simp [intOf]; omega
      · obtain rfl : j = N := by omega
        go_wp2_with fail
        go_ret2
        rw [HE.out.1, HE.out.2, Int.toNat_natCast]
        exact lout_own (zs := fl j (ulV bs c)) rfl (by rw [fl_len]; exact HK.out.1) (Nat.le_succ _) HK.out.2.2
  · have hv : ulL n k bs c = [] := if_neg hg
    rw [hv]
    generalize given n k bs c [] = cd at hg HG ⊢
    have hd : (cd != 0) = true := by rw [bne_iff_ne]; exact hg
    clear hg hv
    go_enter Tryd.func8, Tryd.ntmps8
    go_wp2_with (refine wpList_load_row rfl 28 (.tmp 2) rfl w.heap.size rfl 28 _ (0,0) _ HA.out.1 Tryd.underlying28 rfl HS.out ?_)
    refine (HG.out _).mono ?_
    rintro e w1 ⟨rfl, hb1⟩
    have G1 := hidd (HA.out.more hb1)
    clear hb1
    go_wp2_with fail
    go_ret2
    exact lout_nil rfl G1.out.2
end Go.Proofs.YtmeihpakbhfipaaDoor
