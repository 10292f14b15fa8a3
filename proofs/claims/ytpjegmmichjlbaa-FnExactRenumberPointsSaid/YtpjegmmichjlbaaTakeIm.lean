/- TakePoint: the program. -/
import Derived.Test.YtpjegmmichjlbaaTake
namespace Go.Proofs.Ytpjegmmichjlbaa
set_option linter.unusedVariables false
set_option linter.unusedSimpArgs false
open Go Go.RowKit
def RelT (p : Nat → Bool) (C Z : Array Value) (w : World) (j : Nat) (v : Value) (wr : World) : Prop :=
  Blk wr w.heap.size C 29 ∧ Blk wr (w.heap.size + 1) Z 29 ∧ wr.ownsRow (w.heap.size + 1 + 1) 2 1 v (nbK p j).length (icells (nbK p j)) ∧ Below w.heap.size w wr
theorem RelT.skip {p : Nat → Bool} {C Z : Array Value} {w wr w1 : World} {j : Nat} {v : Value} (h : RelT p C Z w j v wr) (hb : Below wr.heap.size wr w1) (hp : p j = false) : RelT p C Z w (j + 1) v w1 :=
  ⟨h.1.below hb h.1.lt, h.2.1.below hb h.2.1.lt, by rw [nbK, hp]; exact own_below h.2.2.1 hb (Nat.le_refl _), h.2.2.2.trans (hb.mono h.2.2.2.size)⟩
set_option maxRecDepth 100000 in
set_option maxHeartbeats 2000000 in
theorem impl40 (n k : Int) (bs : List Nat) (hb : Bys bs) (p : Int) (w : World) :
    Calls Try.prog 19 #[.agg (ccells n k bs).toArray, .int .i64 p] w fun e w' => e = .returned (tkOut n k bs p) ∧ Below w.heap.size w w' := by
  have HS := hidd (size_c26 n k hb)
  have Hz := zero26
  have HZS := hidd size_z26
  have HZ1 := hidd (ccells_one 0 0 zbl)
  have HC0 := hidd (show (ccells n k bs).toArray[0]? = some (.int .i64 n) from rfl)
  have hmk : ∀ w0, w0 = (w.alloc (.cells (ccells n k bs).toArray 29)).alloc (.cells (ccells 0 0 zbl).toArray 29) → ∀ w1, Below w0.heap.size w0 w1 →
      Blk w1 w.heap.size (ccells n k bs).toArray 29 ∧ Blk w1 (w.heap.size + 1) (ccells 0 0 zbl).toArray 29 ∧ Below w.heap.size w w1 := by
    rintro w0 rfl w1 hb1
    have hb := ((Below.refl w.heap.size w).alloc (Nat.le_refl _) (.cells (ccells n k bs).toArray 29)).alloc (by simp) (.cells (ccells 0 0 zbl).toArray 29)
    have hbl := hb.trans (hb1.mono (by simp; omega))
    exact ⟨((Blk.new _ _ _ _ rfl).alloc _).below hb1 (by simp; omega), (Blk.new _ _ _ _ (by simp)).below hb1 (by simp), hbl⟩
  have HMK := hidd hmk
  clear hmk
  cases hi : isCol n k bs with
  | false =>
    have H := hidd (tkOut_bad (tkCode_1 (p := p) hi) (by omega))
    have HI := hidd hi
    clear hi
    go_enter Try.func19, Try.ntmps19
    go_wp2_with (refine wpList_load_row rfl 29 (.tmp 2) rfl w.heap.size rfl 29 _ (0,0) _ ((Blk.new _ _ _ _ rfl).alloc _) Try.underlying29 rfl HS.out ?_)
    refine (implIs_any n k bs hb _).mono ?_
    rintro e w1 ⟨rfl, hb1⟩
    rw [HI.out]
    have G := hidd (HMK.out _ rfl _ hb1)
    have R := hidd (And.intro G.out.2.1 (And.intro (G.out.2.1.rowSame (ccells 0 0 zbl).toArray) (below_setRow G.out.2.2 (g := w.heap.size + 1) (by omega) (ccells 0 0 zbl).toArray)))
    clear hb1
    go_wp2_with (first
      | (refine wpList_zero26 rfl rfl ?_)
      | (refine wpList_store_row rfl 29 (.tmp 4) (.tmp 11) rfl (w.heap.size + 1) _ rfl rfl 29 _ R.out.1 HZS.out rfl HZ1.out ?_))
    exact ret_col rfl zbl_bys rfl R.out.2.1 rfl rfl ⟨by rw [H.out]; rfl, R.out.2.2⟩
  | true =>
    have HI := hidd hi
    obtain ⟨n1, n2, k1, k2⟩ := isCol_bd hi
    cases hp : belowB p n with
    | false =>
      have H := hidd (tkOut_bad (tkCode_2 hi hp) (by omega))
      have HP := hidd hp
      clear hi hp
      go_enter Try.func19, Try.ntmps19
      go_wp2_with (refine wpList_load_row rfl 29 (.tmp 2) rfl w.heap.size rfl 29 _ (0,0) _ ((Blk.new _ _ _ _ rfl).alloc _) Try.underlying29 rfl HS.out ?_)
      refine (implIs_any n k bs hb _).mono ?_
      rintro e w1 ⟨rfl, hb1⟩
      rw [HI.out]
      have G := hidd (HMK.out _ rfl _ hb1)
      have R := hidd (And.intro G.out.2.1 (And.intro (G.out.2.1.rowSame (ccells 0 0 zbl).toArray) (below_setRow G.out.2.2 (g := w.heap.size + 1) (by omega) (ccells 0 0 zbl).toArray)))
      have c0 := G.out.1.cell HC0.out
      clear hb1
      go_wp2_with fail
      refine (below61 p n w1).mono ?_
      rintro e _ ⟨rfl, rfl⟩
      rw [HP.out]
      go_wp2_with (first
        | (refine wpList_zero26 rfl rfl ?_)
        | (refine wpList_store_row rfl 29 (.tmp 4) (.tmp 17) rfl (w.heap.size + 1) _ rfl rfl 29 _ R.out.1 HZS.out rfl HZ1.out ?_))
      exact ret_col rfl zbl_bys rfl R.out.2.1 rfl rfl ⟨by rw [H.out]; rfl, R.out.2.2⟩
    | true =>
      by_cases hn1 : n = 1
      · subst hn1
        have H := hidd (tkOut_bad (tkCode_5 hi hp) (by omega))
        have HP := hidd hp
        clear hi hp
        go_enter Try.func19, Try.ntmps19
        go_wp2_with (refine wpList_load_row rfl 29 (.tmp 2) rfl w.heap.size rfl 29 _ (0,0) _ ((Blk.new _ _ _ _ rfl).alloc _) Try.underlying29 rfl HS.out ?_)
        refine (implIs_any 1 k bs hb _).mono ?_
        rintro e w1 ⟨rfl, hb1⟩
        rw [HI.out]
        have G := hidd (HMK.out _ rfl _ hb1)
        have R := hidd (And.intro G.out.2.1 (And.intro (G.out.2.1.rowSame (ccells 0 0 zbl).toArray) (below_setRow G.out.2.2 (g := w.heap.size + 1) (by omega) (ccells 0 0 zbl).toArray)))
        have c0 := G.out.1.cell HC0.out
        clear hb1
        go_wp2_with fail
        refine (below61 p 1 w1).mono ?_
        rintro e _ ⟨rfl, rfl⟩
        rw [HP.out]
        go_wp2_with (first
          | (refine wpList_zero26 rfl rfl ?_)
          | (refine wpList_store_row rfl 29 (.tmp 4) (.tmp 21) rfl (w.heap.size + 1) _ rfl rfl 29 _ R.out.1 HZS.out rfl HZ1.out ?_))
        exact ret_col rfl zbl_bys rfl R.out.2.1 rfl rfl ⟨by rw [H.out]; rfl, R.out.2.2⟩
      · have HF := hidd (tk_fit hi hp hn1)
        have H := hidd (tkOut_good (tkCode_0 hi hp hn1) (poCode_0 hi (tk_fit hi hp hn1)))
        have HP := hidd hp
        have hq : (n == 1) = false := by rw [beq_eq_false_iff_ne]; exact hn1
        have hpb := inB_bd hp
        obtain ⟨N, rfl⟩ := Int.eq_ofNat_of_zero_le (show 0 ≤ n by omega)
        have HZN := hidd (show tkZ (N : Int) p = nbK (othB p) N from rfl)
        obtain ⟨t0, hi2, hz0, hz1, hz2⟩ := info_parts info2
        have HIF := hidd (And.intro hi2 (And.intro hz0 (And.intro hz1 hz2)))
        clear hi hp hi2 hz0 hz1 hz2
        go_enter Try.func19, Try.ntmps19
        go_wp2_with (refine wpList_load_row rfl 29 (.tmp 2) rfl w.heap.size rfl 29 _ (0,0) _ ((Blk.new _ _ _ _ rfl).alloc _) Try.underlying29 rfl HS.out ?_)
        refine (implIs_any (N : Int) k bs hb _).mono ?_
        rintro e w1 ⟨rfl, hb1⟩
        rw [HI.out]
        have G := hidd (HMK.out _ rfl _ hb1)
        have c0 := G.out.1.cell HC0.out
        clear hb1
        go_wp2_with fail
        refine (below61 p (N : Int) w1).mono ?_
        rintro e _ ⟨rfl, rfl⟩
        rw [HP.out]
        go_wp2_with fail
        clear c0
        go_loopw [6, 24] (fun v e wr => ∃ j : Nat, j ≤ N ∧ e = .int .i64 j ∧ RelT (othB p) (ccells (N : Int) k bs).toArray (ccells 0 0 zbl).toArray w j v wr) (fun _ e _ => N - (intOf e).toNat)
        case atStart => exact ⟨0, by omega, rfl, G.out.1, G.out.2.1, ⟨rfl, .inl ⟨rfl, rfl⟩⟩, G.out.2.2⟩
        case round =>
          obtain ⟨j, hj, rfl, HR⟩ := hrel
          by_cases hlt : j < N
          · have HK := hidd HR
            clear HR
            by_cases hij : (j : Int) = p
            · have hnb : othB p j = false := by simp [othB, hij]
              have HH := hidd (HK.out.skip (Below.refl _ _) hnb)
              have hz : ((j : Int) != p) = false := by simpa using hij
              clear hij hnb
              go_wp2_with fail
              go_roundw
              case rel => exact ⟨j + 1, by omega, by go_num, HH.out⟩
              case measure => simp [intOf]; omega
            · have hz : ((j : Int) != p) = true := by rw [bne_iff_ne]; exact hij
              have hnb : othB p j = true := by simp [othB, hij]
              have HH := hidd (show nbK (othB p) (j + 1) = nbK (othB p) j ++ [(j : Int)] by rw [nbK, if_pos hnb])
              have hlen := nbK_len (othB p) j
              have hown := HK.out.2.2.1
              have hsz := HK.out.2.2.2.size
              have hszC := HK.out.2.1.lt
              clear hij hnb
              go_wp2_with (at_builtin; refine wpList_append_own _ rfl _ _ 38 rfl (w.heap.size + 1 + 1) 2 t0 (.int .i64 0) 1 8 Try.underlying38 HIF.out.1 HIF.out.2.1 HIF.out.2.2.1 HIF.out.2.2.2 rfl (by decide) _ _ _ rfl (hown.alloc _) ⟨wr.heap.size, 0, none⟩ 1 1 [.int .i64 (j : Int)] rfl rfl ?c1 ?c2 ?c3 ?c4 ?c5 ?_)
              case c1 => exact one_new _ _ _
              case c2 => intro u hu; simp at hu; subst hu; rfl
              case c3 => unfold maxLen; omega
              case c4 => omega
              case c5 => simp; omega
              intro v' w2 hown' hgrow _
              have K3 := hidd (show RelT (othB p) (ccells (N : Int) k bs).toArray (ccells 0 0 zbl).toArray w (j + 1) v' w2 from ⟨HK.out.1.below (grown_step hown hgrow (by omega)) (by omega), HK.out.2.1.below (grown_step hown hgrow (by omega)) (by omega), by rw [HH.out, icells_app, List.length_append]; exact hown', HK.out.2.2.2.trans ((grown_step hown hgrow (by omega)).mono (by omega))⟩)
              clear hown' hgrow hown
              go_wp2
              go_roundw
              case rel => exact ⟨j + 1, by omega, by go_num, K3.out⟩
              case measure => simp [intOf]; omega
          · have hje : j = N := by omega
            subst hje
            obtain ⟨a, cap, rfl, ho⟩ := own_list HR.2.2.1
            rw [← HZN.out] at ho
            have HK := hidd (And.intro HR.1 (And.intro HR.2.1 (And.intro ho.sl HR.2.2.2)))
            rw [← HZN.out]
            clear HR ho
            have hl17 := tkZ_len (p := p) n2
            go_wp2_with (refine wpList_load_row rfl 29 (.tmp 2) rfl w.heap.size rfl 29 _ (0,0) _ HK.out.1 Try.underlying29 rfl HS.out ?_)
            refine (impl36 (j : Int) k bs hb (tkZ (j : Int) p) a cap _ HK.out.2.2.1 (by omega)).mono ?_
            rintro e w2 ⟨rfl, hb2⟩
            rw [poOut]
            have HPB := hidd (poB_bys (j : Int) k hb (tkZ (j : Int) p))
            have HPS := hidd (size_c26 (poN (j : Int) k bs (tkZ (j : Int) p)) (poK (j : Int) k bs (tkZ (j : Int) p)) HPB.out)
            have HPO := hidd (size_cc 0 0 (poN (j : Int) k bs (tkZ (j : Int) p)) (poK (j : Int) k bs (tkZ (j : Int) p)) zbl_bys HPB.out)
            have HPA := hidd (ccells_one (poN (j : Int) k bs (tkZ (j : Int) p)) (poK (j : Int) k bs (tkZ (j : Int) p)) (poB (j : Int) k bs (tkZ (j : Int) p)))
            have z2 := HK.out.2.1.below hb2 HK.out.2.1.lt
            have b2 := HK.out.2.2.2.trans (hb2.mono HK.out.2.2.2.size)
            obtain ⟨PC, hPC⟩ : ∃ PC, PC = (ccells (poN (j : Int) k bs (tkZ (j : Int) p)) (poK (j : Int) k bs (tkZ (j : Int) p)) (poB (j : Int) k bs (tkZ (j : Int) p))).toArray := ⟨_, rfl⟩
            have R := hidd (And.intro z2 (And.intro (z2.rowSame PC) (below_setRow b2 (g := w.heap.size + 1) (by omega) PC)))
            clear hb2 z2 b2
            rw [hPC] at R
            clear hPC
            go_wp2_with (refine wpList_store_row rfl 29 (.tmp 4) (.tmp 38) rfl (w.heap.size + 1) _ rfl rfl 29 _ R.out.1 HPS.out HPO.out HPA.out ?_)
            exact ret_col rfl HPB.out rfl R.out.2.1 rfl rfl ⟨by rw [H.out]; rfl, R.out.2.2⟩
end Go.Proofs.Ytpjegmmichjlbaa
