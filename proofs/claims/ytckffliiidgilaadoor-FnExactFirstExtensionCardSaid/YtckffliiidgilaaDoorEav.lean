/- enterAvoiding. -/
import Derived.Test.YtckffliiidgilaaDoorAvs
namespace Go.Proofs.YtckffliiidgilaaDoor
set_option linter.unusedVariables false
set_option linter.unusedSimpArgs false
open Go Go.RowKit Go.Extern.Stop Go.Stop Go.Extern
/-- The code of a colouring that must avoid sizes. -/
def eaC (lim n k : Int) (bs : List Nat) (zs : List Int) : Int := if szCode n k bs zs = 0 then (if avP n.toNat bs zs k.toNat = true then (if lim < n then 3 else 0) else 5) else szCode n k bs zs
def eaS (lim n k : Int) (bs : List Nat) (zs : List Int) (a : Option Addr) (cap : Nat) : List Value := if eaC lim n k bs zs = 0 then scl n k bs a zs.length cap else scl 0 0 zbl none 0 0
theorem eaC_bad {lim n k : Int} {bs : List Nat} {zs : List Int} (h : szCode n k bs zs ≠ 0) : eaC lim n k bs zs = szCode n k bs zs := by unfold eaC; rw [if_neg h]
theorem eaC_5 {lim n k : Int} {bs : List Nat} {zs : List Int} (h : szCode n k bs zs = 0) (h2 : avP n.toNat bs zs k.toNat = false) : eaC lim n k bs zs = 5 := by unfold eaC; rw [if_pos h, h2]; simp
theorem eaC_3 {lim n k : Int} {bs : List Nat} {zs : List Int} (h : szCode n k bs zs = 0) (h2 : avP n.toNat bs zs k.toNat = true) (h3 : lim < n) : eaC lim n k bs zs = 3 := by unfold eaC; rw [if_pos h, if_pos h2, if_pos h3]
theorem eaC_0 {lim n k : Int} {bs : List Nat} {zs : List Int} (h : szCode n k bs zs = 0) (h2 : avP n.toNat bs zs k.toNat = true) (h3 : ¬ lim < n) : eaC lim n k bs zs = 0 := by unfold eaC; rw [if_pos h, if_pos h2, if_neg h3]
theorem eaC_ok {lim n k : Int} {bs : List Nat} {zs : List Int} (h : eaC lim n k bs zs = 0) : szCode n k bs zs = 0 ∧ avP n.toNat bs zs k.toNat = true ∧ n ≤ lim := by
  by_cases h1 : szCode n k bs zs = 0
  · cases h2 : avP n.toNat bs zs k.toNat with
    | false => rw [eaC_5 h1 h2] at h; omega
    | true =>
      by_cases h3 : lim < n
      · rw [eaC_3 h1 h2 h3] at h; omega
      · exact ⟨h1, rfl, by omega⟩
  · rw [eaC_bad h1] at h; exact absurd h h1
theorem szCode_ok {n k : Int} {bs : List Nat} {zs : List Int} (h : szCode n k bs zs = 0) : isCol n k bs = true ∧ szOk k zs = true := by
  have hi : isCol n k bs = true := by
    cases h1 : isCol n k bs with
    | true => rfl
    | false => rw [szCode_1 h1] at h; omega
  refine ⟨hi, ?_⟩
  cases h1 : szOk k zs with
  | true => rfl
  | false => rw [szCode_2 hi h1] at h; omega
theorem szOk_bd {k : Int} {zs : List Int} (h : szOk k zs = true) : (zs.length : Int) = k ∧ szP zs zs.length = true := by
  unfold szOk at h
  rw [Bool.and_eq_true] at h
  exact ⟨of_decide_eq_true h.1, h.2⟩
theorem ret_sized {fn : Func} {p u : Tmp} (h : fn.results = #[.cell p 56, .tmp u]) {tmps : Array Value} {w : World} {R : Ending → World → Prop} {g : Nat} {t : TypeId} {cs : Array Value} (hs : (Tryd.prog.info? 56).map (·.size) = some cs.size) {d : List Deferred}
    (hp : tmps.getD p undef = .pointer (some ⟨g, 0, none⟩)) (hg : Blk w g cs t) (hd : d = []) {v : Value} (hv : v = .tuple #[.agg cs, tmps.getD u undef]) (hR : R (.returned v) w) :
    bodyPost Tryd.prog fn R .ret ⟨tmps, d⟩ w := by
  subst hv
  exact bodyPost_ret (results_row_tmp h tmps w g t _ _ hp hg Tryd.underlying56 rfl hs) hd hR
set_option maxRecDepth 100000 in
set_option maxHeartbeats 4000000 in
theorem ea47 (lim n k : Int) (bs : List Nat) (hb : Bys bs) (zs : List Int) (a : Option Addr) (cap : Nat) (e0 : Addr) (w : World) (hs : SlI w a zs) (hl : zs.length ≤ 1048576) (hE : Er w e0) :
    Calls Tryd.prog 47 #[.agg (ccells n k bs).toArray, .slice a zs.length cap, .int .i64 lim] w fun e w' => e = .returned (.tuple #[.agg (eaS lim n k bs zs a cap).toArray, .int .i64 (eaC lim n k bs zs)]) ∧ Below w.heap.size w w' := by
  have Hz := zero56
  have HS := hidd (size_c26 n k hb)
  have HSL := hidd hs
  have HE := hidd hE
  have HEN := hidd (fun W h hE => enter58 n k bs hb zs a cap e0 W h hl hE)
  have HZ5 := hidd (size_s56 (n := 0) (k := 0) zbl_bys none 0 0)
  have HZ1 := hidd (scl_one (n := 0) (k := 0) (bs := zbl) (a := none) (l := 0) (c := 0))
  have HC0 := hidd (show (ccells n k bs).toArray[0]? = some (.int .i64 n) from rfl)
  obtain ⟨W2, hW2⟩ : ∃ W2, W2 = (w.alloc (.cells (ccells n k bs).toArray 28)).alloc (.cells (scl 0 0 zbl none 0 0).toArray 56) := ⟨_, rfl⟩
  have g1 : Blk W2 w.heap.size (ccells n k bs).toArray 28 := by rw [hW2]; exact (Blk.new _ _ _ _ rfl).alloc _
  have g2 : Blk W2 (w.heap.size + 1) (scl 0 0 zbl none 0 0).toArray 56 := by rw [hW2]; exact Blk.new _ _ _ _ (by simp)
  have g3 : Below w.heap.size w W2 := by rw [hW2]; exact ((Below.refl _ _).alloc (Nat.le_refl _) _).alloc (by simp) _
  have G := hidd (And.intro g1 (And.intro g2 g3))
  clear g1 g2 g3 hs hE
  -- what enter gave
  obtain ⟨D, hD⟩ : ∃ D, D = (enS n k bs zs a cap).toArray := ⟨_, rfl⟩
  obtain ⟨cd, hcd⟩ : ∃ cd, cd = szCode n k bs zs := ⟨_, rfl⟩
  have hDs : (Tryd.prog.info? 56).map (·.size) = some D.size ∧ (scl 0 0 zbl none 0 0).toArray.size = D.size ∧ D.all (·.oneCell') = true := by
    rw [hD]; unfold enS
    split
    · exact ⟨size_s56 hb _ _ _, by simp [scl_len zbl_bys, scl_len hb], scl_one⟩
    · exact ⟨size_s56 zbl_bys _ _ _, rfl, scl_one⟩
  have HD := hidd hDs
  rw [← hD, ← hcd] at HEN
  have HJ := hidd (fun (W1 : World) (hb1 : Below W2.heap.size W2 W1) =>
    (show Blk (W1.alloc (.cells (scl 0 0 zbl none 0 0).toArray 56)) W1.heap.size (scl 0 0 zbl none 0 0).toArray 56 ∧
        Blk ((W1.alloc (.cells (scl 0 0 zbl none 0 0).toArray 56)).setRow W1.heap.size D) W1.heap.size D 56 ∧
        Blk ((W1.alloc (.cells (scl 0 0 zbl none 0 0).toArray 56)).setRow W1.heap.size D) w.heap.size (ccells n k bs).toArray 28 ∧
        Blk ((W1.alloc (.cells (scl 0 0 zbl none 0 0).toArray 56)).setRow W1.heap.size D) (w.heap.size + 1) (scl 0 0 zbl none 0 0).toArray 56 ∧
        Below w.heap.size w ((W1.alloc (.cells (scl 0 0 zbl none 0 0).toArray 56)).setRow W1.heap.size D) from by
      have k1 := G.out.1.below hb1 G.out.1.lt
      have k2 := G.out.2.1.below hb1 G.out.2.1.lt
      have hlt := k2.lt
      have k3 := G.out.2.2.trans (hb1.mono G.out.2.2.size)
      have k4 : Blk (W1.alloc (.cells (scl 0 0 zbl none 0 0).toArray 56)) W1.heap.size (scl 0 0 zbl none 0 0).toArray 56 := Blk.new _ _ _ _ rfl
      exact ⟨k4, k4.rowSame _, (k1.alloc _).rowOther _ _ (by omega), (k2.alloc _).rowOther _ _ (by omega), below_setRow (k3.alloc (by omega) _) (by omega) _⟩))
  clear hDs
  by_cases hc0 : szCode n k bs zs = 0
  · obtain ⟨hi, ho⟩ := szCode_ok hc0
    obtain ⟨n1, n2, k1, k2⟩ := isCol_bd hi
    obtain ⟨hlk, hsp⟩ := szOk_bd ho
    obtain ⟨N, rfl⟩ := Int.eq_ofNat_of_zero_le (show 0 ≤ n by omega)
    obtain ⟨K, rfl⟩ := Int.eq_ofNat_of_zero_le (show 0 ≤ k by omega)
    have hlK : zs.length = K := by omega
    have hDe : D = (scl (N : Int) (K : Int) bs a K cap).toArray := by rw [hD, enS_ok hc0, hlK]
    have HAV := hidd (fun W h => avoids50 N K bs hb zs a cap W h hlK (by omega) (by omega) (by omega) (by rw [← hlK]; exact hsp))
    rw [← hDe] at HAV
    obtain ⟨av, hav⟩ : ∃ av, av = avP N bs zs K := ⟨_, rfl⟩
    rw [← hav] at HAV
    have hav' : avP (N : Int).toNat bs zs (K : Int).toNat = av := hav.symm
    have hcd0 : cd = 0 := hcd.trans hc0
    have HSC := hidd hc0
    have HDE := hidd hDe
    rw [hlK] at HEN
    cases av with
    | false =>
      have hea := eaC_5 (lim := lim) hc0 hav'
      have hes : eaS lim (N : Int) (K : Int) bs zs a cap = scl 0 0 zbl none 0 0 := by unfold eaS; rw [if_neg (by rw [hea]; omega)]
      rw [hea, hes, hlK]
      clear hea hes hav hav' hDe hD hcd hc0 hi ho hlk hsp hlK hl hb
      subst hcd0
      go_enter Tryd.func47, Tryd.ntmps47
      go_upto_region 1 with fail
      rw [← hW2]
      clear hW2
      go_wp2_with (refine wpList_load_row rfl 28 (.tmp 3) rfl w.heap.size rfl 28 _ (0,0) _ G.out.1 Tryd.underlying28 rfl HS.out ?_)
      refine (HEN.out _ (HSL.out.below G.out.2.2 (Nat.le_refl _)) (HE.out.below G.out.2.2 HE.out.lt)).mono ?_
      rintro e w1 ⟨rfl, hb1⟩
      have J := hidd (HJ.out w1 hb1)
      obtain ⟨W4, hW4⟩ : ∃ W4, W4 = (w1.alloc (.cells (scl 0 0 zbl none 0 0).toArray 56)).setRow w1.heap.size D := ⟨_, rfl⟩
      have J2 := hidd J.out.1
      have J3 := hidd J.out.2
      rw [← hW4] at J3
      clear J hb1
      go_upto_region 2 with (first
        | (refine wpList_store_row rfl 56 (.tmp 8) (.tmp 14) rfl w1.heap.size _ rfl rfl 56 _ J2.out HD.out.1 HD.out.2.1 HD.out.2.2 ?_))
      rw [← hW4]
      clear hW4
      go_wp2_with (first
        | (refine wpList_load_row rfl 56 (.tmp 8) rfl w1.heap.size rfl 56 _ (0,0) _ J3.out.1 Tryd.underlying56 rfl HD.out.1 ?_))
      refine (HAV.out _ (HSL.out.below J3.out.2.2.2 (Nat.le_refl _))).mono ?_
      rintro e w5 ⟨rfl, hb5⟩
      have L := hidd (And.intro (J3.out.2.2.1.below hb5 J3.out.2.2.1.lt) (And.intro ((J3.out.2.2.1.below hb5 J3.out.2.2.1.lt).rowSame (scl 0 0 zbl none 0 0).toArray) (below_setRow (J3.out.2.2.2.trans (hb5.mono J3.out.2.2.2.size)) (show w.heap.size ≤ w.heap.size + 1 by omega) (scl 0 0 zbl none 0 0).toArray)))
      clear hb5
      go_wp2_with (first
        | (refine wpList_zero56 rfl rfl ?_)
        | (refine wpList_store_row rfl 56 (.tmp 6) (.tmp 25) rfl (w.heap.size + 1) _ rfl rfl 56 _ L.out.1 HZ5.out rfl HZ1.out ?_))
      exact ret_sized rfl HZ5.out rfl L.out.2.1 rfl rfl ⟨rfl, L.out.2.2⟩
    | true =>
      by_cases hlim : lim < (N : Int)
      · have hea := eaC_3 (lim := lim) hc0 hav' hlim
        have hes : eaS lim (N : Int) (K : Int) bs zs a cap = scl 0 0 zbl none 0 0 := by unfold eaS; rw [if_neg (by rw [hea]; omega)]
        have hlimI : decide (lim < (N : Int)) = true := decide_eq_true hlim
        rw [hea, hes, hlK]
        clear hea hes hav hav' hDe hD hcd hc0 hi ho hlk hsp hlK hl hb
        subst hcd0
        go_enter Tryd.func47, Tryd.ntmps47
        go_upto_region 1 with fail
        rw [← hW2]
        clear hW2
        go_wp2_with (refine wpList_load_row rfl 28 (.tmp 3) rfl w.heap.size rfl 28 _ (0,0) _ G.out.1 Tryd.underlying28 rfl HS.out ?_)
        refine (HEN.out _ (HSL.out.below G.out.2.2 (Nat.le_refl _)) (HE.out.below G.out.2.2 HE.out.lt)).mono ?_
        rintro e w1 ⟨rfl, hb1⟩
        have J := hidd (HJ.out w1 hb1)
        obtain ⟨W4, hW4⟩ : ∃ W4, W4 = (w1.alloc (.cells (scl 0 0 zbl none 0 0).toArray 56)).setRow w1.heap.size D := ⟨_, rfl⟩
        have J2 := hidd J.out.1
        have J3 := hidd J.out.2
        rw [← hW4] at J3
        clear J hb1
        go_upto_region 2 with (first
          | (refine wpList_store_row rfl 56 (.tmp 8) (.tmp 14) rfl w1.heap.size _ rfl rfl 56 _ J2.out HD.out.1 HD.out.2.1 HD.out.2.2 ?_))
        rw [← hW4]
        clear hW4
        go_wp2_with (first
          | (refine wpList_load_row rfl 56 (.tmp 8) rfl w1.heap.size rfl 56 _ (0,0) _ J3.out.1 Tryd.underlying56 rfl HD.out.1 ?_))
        refine (HAV.out _ (HSL.out.below J3.out.2.2.2 (Nat.le_refl _))).mono ?_
        rintro e w5 ⟨rfl, hb5⟩
        have L0 := J3.out.2.1.below hb5 J3.out.2.1.lt
        have c0 := L0.cell HC0.out
        have L := hidd (And.intro (J3.out.2.2.1.below hb5 J3.out.2.2.1.lt) (And.intro ((J3.out.2.2.1.below hb5 J3.out.2.2.1.lt).rowSame (scl 0 0 zbl none 0 0).toArray) (below_setRow (J3.out.2.2.2.trans (hb5.mono J3.out.2.2.2.size)) (show w.heap.size ≤ w.heap.size + 1 by omega) (scl 0 0 zbl none 0 0).toArray)))
        clear hb5 L0
        go_wp2_with (first
          | (refine wpList_zero56 rfl rfl ?_)
          | (refine wpList_store_row rfl 56 (.tmp 6) (.tmp 31) rfl (w.heap.size + 1) _ rfl rfl 56 _ L.out.1 HZ5.out rfl HZ1.out ?_))
        exact ret_sized rfl HZ5.out rfl L.out.2.1 rfl rfl ⟨rfl, L.out.2.2⟩
      · have hea := eaC_0 (lim := lim) hc0 hav' hlim
        have hes : eaS lim (N : Int) (K : Int) bs zs a cap = scl (N : Int) (K : Int) bs a K cap := by unfold eaS; rw [if_pos hea, hlK]
        have hlimI : decide (lim < (N : Int)) = false := decide_eq_false hlim
        rw [hea, hes, hlK, ← hDe]
        clear hea hes hav hav' hDe hD hcd hc0 hi ho hlk hsp hlK hl hb
        subst hcd0
        go_enter Tryd.func47, Tryd.ntmps47
        go_upto_region 1 with fail
        rw [← hW2]
        clear hW2
        go_wp2_with (refine wpList_load_row rfl 28 (.tmp 3) rfl w.heap.size rfl 28 _ (0,0) _ G.out.1 Tryd.underlying28 rfl HS.out ?_)
        refine (HEN.out _ (HSL.out.below G.out.2.2 (Nat.le_refl _)) (HE.out.below G.out.2.2 HE.out.lt)).mono ?_
        rintro e w1 ⟨rfl, hb1⟩
        have J := hidd (HJ.out w1 hb1)
        obtain ⟨W4, hW4⟩ : ∃ W4, W4 = (w1.alloc (.cells (scl 0 0 zbl none 0 0).toArray 56)).setRow w1.heap.size D := ⟨_, rfl⟩
        have J2 := hidd J.out.1
        have J3 := hidd J.out.2
        rw [← hW4] at J3
        clear J hb1
        go_upto_region 2 with (first
          | (refine wpList_store_row rfl 56 (.tmp 8) (.tmp 14) rfl w1.heap.size _ rfl rfl 56 _ J2.out HD.out.1 HD.out.2.1 HD.out.2.2 ?_))
        rw [← hW4]
        clear hW4
        go_wp2_with (first
          | (refine wpList_load_row rfl 56 (.tmp 8) rfl w1.heap.size rfl 56 _ (0,0) _ J3.out.1 Tryd.underlying56 rfl HD.out.1 ?_))
        refine (HAV.out _ (HSL.out.below J3.out.2.2.2 (Nat.le_refl _))).mono ?_
        rintro e w5 ⟨rfl, hb5⟩
        have L0 := J3.out.2.1.below hb5 J3.out.2.1.lt
        have c0 := L0.cell HC0.out
        have hlt1 := J3.out.2.2.1.lt
        have L := hidd (And.intro (J3.out.2.2.1.below hb5 J3.out.2.2.1.lt) (And.intro ((J3.out.2.2.1.below hb5 J3.out.2.2.1.lt).rowSame D) (And.intro (below_setRow (J3.out.2.2.2.trans (hb5.mono J3.out.2.2.2.size)) (show w.heap.size ≤ w.heap.size + 1 by omega) D) (J3.out.1.below hb5 J3.out.1.lt))))
        clear hb5 L0
        go_wp2_with (first
          | (refine wpList_load_row rfl 56 (.tmp 8) rfl w1.heap.size rfl 56 _ (0,0) _ L.out.2.2.2 Tryd.underlying56 rfl HD.out.1 ?_)
          | (refine wpList_store_row rfl 56 (.tmp 6) (.tmp 32) rfl (w.heap.size + 1) _ rfl rfl 56 _ L.out.1 HD.out.1 HD.out.2.1 HD.out.2.2 ?_))
        exact ret_sized rfl HD.out.1 rfl L.out.2.1 rfl rfl ⟨rfl, L.out.2.2.1⟩
  · have hea := eaC_bad (lim := lim) hc0
    have hes : eaS lim n k bs zs a cap = scl 0 0 zbl none 0 0 := by unfold eaS; rw [if_neg (by rw [hea]; exact hc0)]
    rw [hea, hes, ← hcd]
    rw [← hcd] at hc0
    have hz : (cd != 0) = true := by rw [bne_iff_ne]; exact hc0
    clear hea hes hD hcd hl hb hc0
    go_enter Tryd.func47, Tryd.ntmps47
    go_upto_region 1 with fail
    rw [← hW2]
    clear hW2
    go_wp2_with (refine wpList_load_row rfl 28 (.tmp 3) rfl w.heap.size rfl 28 _ (0,0) _ G.out.1 Tryd.underlying28 rfl HS.out ?_)
    refine (HEN.out _ (HSL.out.below G.out.2.2 (Nat.le_refl _)) (HE.out.below G.out.2.2 HE.out.lt)).mono ?_
    rintro e w1 ⟨rfl, hb1⟩
    have J := hidd (HJ.out w1 hb1)
    obtain ⟨W4, hW4⟩ : ∃ W4, W4 = (w1.alloc (.cells (scl 0 0 zbl none 0 0).toArray 56)).setRow w1.heap.size D := ⟨_, rfl⟩
    have J2 := hidd J.out.1
    have J3 := hidd J.out.2
    rw [← hW4] at J3
    clear J hb1
    go_upto_region 2 with (first
      | (refine wpList_store_row rfl 56 (.tmp 8) (.tmp 14) rfl w1.heap.size _ rfl rfl 56 _ J2.out HD.out.1 HD.out.2.1 HD.out.2.2 ?_))
    rw [← hW4]
    clear hW4
    have L := hidd (And.intro J3.out.2.2.1 (And.intro (J3.out.2.2.1.rowSame (scl 0 0 zbl none 0 0).toArray) (below_setRow J3.out.2.2.2 (show w.heap.size ≤ w.heap.size + 1 by omega) (scl 0 0 zbl none 0 0).toArray)))
    go_wp2_with (first
      | (refine wpList_zero56 rfl rfl ?_)
      | (refine wpList_store_row rfl 56 (.tmp 6) (.tmp 19) rfl (w.heap.size + 1) _ rfl rfl 56 _ L.out.1 HZ5.out rfl HZ1.out ?_))
    exact ret_sized rfl HZ5.out rfl L.out.2.1 rfl rfl ⟨rfl, L.out.2.2⟩
end Go.Proofs.YtckffliiidgilaaDoor
