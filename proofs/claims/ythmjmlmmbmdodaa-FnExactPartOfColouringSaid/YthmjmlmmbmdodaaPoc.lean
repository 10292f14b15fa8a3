/- PartOfColouring: the program and its model. -/
import Derived.Test.YthmjmlmmbmdodaaPtd
import Derived.Test.YthmjmlmmbmdodaaLstSp
namespace Go.Proofs.Ythmjmlmmbmdodaa
set_option linter.unusedVariables false
set_option linter.unusedSimpArgs false
open Go Go.RowKit Go.Shelf
/-- The part that the edges of the first point tell. -/
def lpL (N : Nat) (bs : List Nat) : List Int := fillA (fcol bs) (N - 1)
theorem lpL_len (N : Nat) (bs : List Nat) : (lpL N bs).length = N - 1 := fillA_len _ _
/-- The colouring that this part tells. -/
def lpP (N : Nat) (bs : List Nat) : List Nat := paintB N (prR (lpL N bs))
theorem lpP_bys {bs : List Nat} (hb : Bys bs) (N : Nat) : Bys (lpP N bs) := paintB_bys fun lo hi => fcol_rng hb _ _
def qoCode (n k : Int) (bs : List Nat) : Int := if isCol n k bs = true then (if k ≤ 3 then (if (lpP n.toNat bs == bs) = true then 0 else 5) else 2) else 1
def qoList (n k : Int) (bs : List Nat) : List Int := if qoCode n k bs = 0 then lpL n.toNat bs else []
theorem qo_1 {n k : Int} {bs : List Nat} (h : isCol n k bs = false) : qoList n k bs = [] ∧ qoCode n k bs = 1 := by
  have e : qoCode n k bs = 1 := by simp [qoCode, h]
  exact ⟨by simp [qoList, e], e⟩
theorem qo_2 {n k : Int} {bs : List Nat} (h : isCol n k bs = true) (h3 : ¬ k ≤ 3) : qoList n k bs = [] ∧ qoCode n k bs = 2 := by
  have e : qoCode n k bs = 2 := by unfold qoCode; rw [if_pos h, if_neg h3]
  exact ⟨by simp [qoList, e], e⟩
theorem qo_5 {n k : Int} {bs : List Nat} (h : isCol n k bs = true) (h3 : k ≤ 3) (h2 : (lpP n.toNat bs == bs) = false) : qoList n k bs = [] ∧ qoCode n k bs = 5 := by
  have e : qoCode n k bs = 5 := by unfold qoCode; rw [if_pos h, if_pos h3, if_neg (by rw [h2]; simp)]
  exact ⟨by simp [qoList, e], e⟩
theorem qo_0 {n k : Int} {bs : List Nat} (h : isCol n k bs = true) (h3 : k ≤ 3) (h2 : (lpP n.toNat bs == bs) = true) : qoList n k bs = lpL n.toNat bs ∧ qoCode n k bs = 0 := by
  have e : qoCode n k bs = 0 := by unfold qoCode; rw [if_pos h, if_pos h3, if_pos h2]
  exact ⟨by simp [qoList, e], e⟩
theorem qoList_len {n k : Int} {bs : List Nat} : (qoList n k bs).length ≤ 17 := by
  cases h : isCol n k bs with
  | false => rw [(qo_1 h).1]; simp
  | true =>
    have := isCol_bd h
    by_cases h3 : k ≤ 3
    · cases h2 : (lpP n.toNat bs == bs) with
      | false => rw [(qo_5 h h3 h2).1]; simp
      | true => rw [(qo_0 h h3 h2).1, lpL_len]; omega
    · rw [(qo_2 h h3).1]; simp
set_option maxRecDepth 100000 in
set_option maxHeartbeats 4000000 in
theorem impl28o (n k : Int) (bs : List Nat) (hb : Bys bs) (w : World) :
    Calls Try.prog 28 #[.agg (ccells n k bs).toArray] w (LOut w (qoList n k bs) (qoCode n k bs)) := by
  have HS := hidd (size_c26 n k hb)
  have HC0 := hidd (show (ccells n k bs).toArray[0]? = some (.int .i64 n) from rfl)
  have HC1 := hidd (show (ccells n k bs).toArray[1]? = some (.int .i64 k) from rfl)
  cases hi : isCol n k bs with
  | false =>
    obtain ⟨e1, e2⟩ := qo_1 hi
    have HI := hidd hi
    rw [e1, e2]
    clear hi e1 e2
    go_enter Try.func28, Try.ntmps28
    go_wp2_with (refine wpList_load_row rfl 35 (.tmp 1) rfl w.heap.size rfl 35 _ (0,0) _ (Blk.new _ _ _ _ rfl) Try.underlying35 rfl HS.out ?_)
    refine (implIs_any n k bs hb _).mono ?_
    rintro e w1 ⟨rfl, hb1⟩
    rw [HI.out]
    have G := hidd (((Below.refl w.heap.size w).alloc (Nat.le_refl _) (.cells (ccells n k bs).toArray 35)).trans (hb1.mono (by simp)))
    clear hb1
    go_wp2_with fail
    go_ret2
    exact lout_nil rfl G.out
  | true =>
    obtain ⟨n1, n2, k1, k2⟩ := isCol_bd hi
    have HI := hidd hi
    obtain ⟨N, rfl⟩ := Int.eq_ofNat_of_zero_le (show 0 ≤ n by omega)
    have hN1 : 1 ≤ N := by omega
    have hN17 : N ≤ 17 := by omega
    by_cases h3 : k ≤ 3
    · have HHT := hidd (fun (hc : (lpP N bs == bs) = true) => qo_0 (n := (N : Int)) (k := k) hi h3 (by rw [Int.toNat_natCast]; exact hc))
      have HHF := hidd (fun (hc : (lpP N bs == bs) = false) => qo_5 (n := (N : Int)) (k := k) hi h3 (by rw [Int.toNat_natCast]; exact hc))
      rw [Int.toNat_natCast] at HHT
      have hd3 : decide (3 < k) = false := by simp; omega
      clear hi
      obtain ⟨PB, hPB⟩ : ∃ PB, PB = lpP N bs := ⟨_, rfl⟩
      have HPB := hidd (show Bys PB by rw [hPB]; exact lpP_bys hb N)
      have HCI := hidd (fun (a : Option Addr) (cap : Nat) (W : World) (hW : SlI W a (lpL N bs)) => by have h := pcol44 (lpL N bs) a cap N k W hW (by rw [lpL_len]; omega) (by rw [lpL_len]; omega) (fcol_rng hb _); rw [lpL_len, show paintB N (prR (lpL N bs)) = PB from hPB.symm] at h; exact h)
      have HLN := hidd (lpL_len N bs)
      rw [← hPB] at HHT HHF
      obtain ⟨q, hq⟩ : ∃ q, q = (PB == bs) := ⟨_, rfl⟩
      have HQ := hidd hq
      clear hPB hq
      have HM1 := hidd (show (N : Int) - 1 = ((N - 1 : Nat) : Int) by omega)
      go_enter Try.func28, Try.ntmps28
      go_wp2_with (refine wpList_load_row rfl 35 (.tmp 1) rfl w.heap.size rfl 35 _ (0,0) _ (Blk.new _ _ _ _ rfl) Try.underlying35 rfl HS.out ?_)
      refine (implIs_any (N : Int) k bs hb _).mono ?_
      rintro e w1 ⟨rfl, hb1⟩
      rw [HI.out]
      have G := hidd (And.intro ((Blk.new w (ccells (N : Int) k bs).toArray 35 _ rfl).below hb1 (by simp)) (((Below.refl w.heap.size w).alloc (Nat.le_refl _) (.cells (ccells (N : Int) k bs).toArray 35)).trans (hb1.mono (by simp))))
      have c0 := G.out.1.cell HC0.out
      have c1 := G.out.1.cell HC1.out
      clear hb1
      go_wp2_with (refine wpList_load_row rfl 35 (.tmp 1) rfl w.heap.size rfl 35 _ (0,0) _ G.out.1 Try.underlying35 rfl HS.out ?_)
      rw [HM1.out]
      refine (first68 (N : Int) k bs hb (N - 1) (by omega) n2 w1).mono ?_
      rintro e w2 ⟨a, rfl, hown, hb2⟩
      have G2 := hidd (And.intro (G.out.1.below hb2 G.out.1.lt) (And.intro (G.out.2.trans (hb2.mono G.out.2.size)) hown))
      clear hb2 hown c0 c1
      cases q with
      | true =>
        go_wp2_with fail
        refine wp_region_quiet_at (fun w' => Below w2.heap.size w2 w') rfl (by kernel_rfl) ((Below.refl _ _).drew) ?_
        refine qs rfl (fun KQ hKQ => ?_)
        apply Exists.intro
        refine ⟨fun w' hw' => ?_, ?_⟩
        · go_simp; exact rfl
        go_simp
        refine hKQ _ ?_
        clear hKQ KQ
        refine qs rfl (fun KQ hKQ => ?_)
        apply Exists.intro
        refine ⟨fun w' hw' => ?_, ?_⟩
        · have c1 := (G2.out.1.below hw' G2.out.1.lt).cell HC1.out; go_simp; exact rfl
        go_simp
        refine hKQ _ ?_
        clear hKQ KQ
        refine qs rfl (fun KQ hKQ => ?_)
        apply Exists.intro
        refine ⟨fun w' hw' => ?_, ?_⟩
        · go_simp; exact rfl
        go_simp
        refine hKQ _ ?_
        clear hKQ KQ
        refine qs rfl (fun KQ hKQ => ?_)
        apply Exists.intro
        refine ⟨fun w' hw' => ?_, ?_⟩
        · go_simp; exact (HCI.out a _ _ (G2.out.2.2.sl.below hw' (Nat.le_refl _))).mono fun _ _ h => ⟨h.1, hw'.trans (h.2.mono hw'.size)⟩
        go_simp
        refine hKQ _ ?_
        clear hKQ KQ
        refine qs rfl (fun KQ hKQ => ?_)
        apply Exists.intro
        refine ⟨fun w' hw' => ?_, ?_⟩
        · exact quietRow 35 (.tmp 1) rfl w.heap.size rfl 35 _ _ (G2.out.1.below hw' G2.out.1.lt) Try.underlying35 rfl HS.out
        go_simp
        refine hKQ _ ?_
        clear hKQ KQ
        refine qs rfl (fun KQ hKQ => ?_)
        apply Exists.intro
        refine ⟨fun w' hw' => ?_, ?_⟩
        · exact quietNeq25 _ _ rfl (N : Int) k PB bs HPB.out hb rfl rfl
        go_simp
        refine hKQ _ ?_
        clear hKQ KQ
        refine wpQuiet_nil ?_
        intro w' hw'
        rw [← HQ.out]
        have R := hidd (And.intro (G2.out.2.2.below hw' (Nat.le_refl _)) (G2.out.2.1.trans (hw'.mono G2.out.2.1.size)))
        have HEE := hidd (HHT.out HQ.out.symm)
        have hsz := G.out.2.size
        clear hw'
        go_wp2_with fail
        go_ret2
        rw [HEE.out.1, HEE.out.2]
        exact ⟨a, _, by rw [HLN.out]; rfl, ownL_base R.out.1 (by omega), R.out.2⟩
      | false =>
        go_wp2_with fail
        refine wp_region_quiet_at (fun w' => Below w2.heap.size w2 w') rfl (by kernel_rfl) ((Below.refl _ _).drew) ?_
        refine qs rfl (fun KQ hKQ => ?_)
        apply Exists.intro
        refine ⟨fun w' hw' => ?_, ?_⟩
        · go_simp; exact rfl
        go_simp
        refine hKQ _ ?_
        clear hKQ KQ
        refine qs rfl (fun KQ hKQ => ?_)
        apply Exists.intro
        refine ⟨fun w' hw' => ?_, ?_⟩
        · have c1 := (G2.out.1.below hw' G2.out.1.lt).cell HC1.out; go_simp; exact rfl
        go_simp
        refine hKQ _ ?_
        clear hKQ KQ
        refine qs rfl (fun KQ hKQ => ?_)
        apply Exists.intro
        refine ⟨fun w' hw' => ?_, ?_⟩
        · go_simp; exact rfl
        go_simp
        refine hKQ _ ?_
        clear hKQ KQ
        refine qs rfl (fun KQ hKQ => ?_)
        apply Exists.intro
        refine ⟨fun w' hw' => ?_, ?_⟩
        · go_simp; exact (HCI.out a _ _ (G2.out.2.2.sl.below hw' (Nat.le_refl _))).mono fun _ _ h => ⟨h.1, hw'.trans (h.2.mono hw'.size)⟩
        go_simp
        refine hKQ _ ?_
        clear hKQ KQ
        refine qs rfl (fun KQ hKQ => ?_)
        apply Exists.intro
        refine ⟨fun w' hw' => ?_, ?_⟩
        · exact quietRow 35 (.tmp 1) rfl w.heap.size rfl 35 _ _ (G2.out.1.below hw' G2.out.1.lt) Try.underlying35 rfl HS.out
        go_simp
        refine hKQ _ ?_
        clear hKQ KQ
        refine qs rfl (fun KQ hKQ => ?_)
        apply Exists.intro
        refine ⟨fun w' hw' => ?_, ?_⟩
        · exact quietNeq25 _ _ rfl (N : Int) k PB bs HPB.out hb rfl rfl
        go_simp
        refine hKQ _ ?_
        clear hKQ KQ
        refine wpQuiet_nil ?_
        intro w' hw'
        rw [← HQ.out]
        have R := hidd (And.intro (G2.out.2.2.below hw' (Nat.le_refl _)) (G2.out.2.1.trans (hw'.mono G2.out.2.1.size)))
        have HEE := hidd (HHF.out HQ.out.symm)
        clear hw'
        go_wp2_with fail
        go_ret2
        rw [HEE.out.1, HEE.out.2]
        exact lout_nil rfl R.out.2
    · obtain ⟨e1, e2⟩ := qo_2 (bs := bs) hi h3
      rw [e1, e2]
      have hd3 : 3 < k := by omega
      clear e1 e2 h3 hi
      go_enter Try.func28, Try.ntmps28
      go_wp2_with (refine wpList_load_row rfl 35 (.tmp 1) rfl w.heap.size rfl 35 _ (0,0) _ (Blk.new _ _ _ _ rfl) Try.underlying35 rfl HS.out ?_)
      refine (implIs_any (N : Int) k bs hb _).mono ?_
      rintro e w1 ⟨rfl, hb1⟩
      rw [HI.out]
      have G := hidd (And.intro ((Blk.new w (ccells (N : Int) k bs).toArray 35 _ rfl).below hb1 (by simp)) (((Below.refl w.heap.size w).alloc (Nat.le_refl _) (.cells (ccells (N : Int) k bs).toArray 35)).trans (hb1.mono (by simp))))
      have c1 := G.out.1.cell HC1.out
      clear hb1
      go_wp2_with fail
      go_ret2
      exact lout_nil rfl G.out.2
set_option maxRecDepth 100000 in
set_option maxHeartbeats 4000000 in
theorem spec26o (n k : Int) (bs : List Nat) (hb : Bys bs) (w : World) :
    Calls Try.prog 26 #[.agg (ccells n k bs).toArray] w (LOut w (qoList n k bs) (qoCode n k bs)) := by
  have HS := hidd (size_c26 n k hb)
  have HC0 := hidd (show (ccells n k bs).toArray[0]? = some (.int .i64 n) from rfl)
  have HC1 := hidd (show (ccells n k bs).toArray[1]? = some (.int .i64 k) from rfl)
  cases hi : isCol n k bs with
  | false =>
    obtain ⟨e1, e2⟩ := qo_1 hi
    have HI := hidd hi
    rw [e1, e2]
    clear hi e1 e2
    go_enter Try.func26, Try.ntmps26
    go_wp2_with (refine wpList_load_row rfl 35 (.tmp 1) rfl w.heap.size rfl 35 _ (0,0) _ (Blk.new _ _ _ _ rfl) Try.underlying35 rfl HS.out ?_)
    refine (l01Is_any n k bs hb _).mono ?_
    rintro e w1 ⟨rfl, hb1⟩
    rw [HI.out]
    have G := hidd (((Below.refl w.heap.size w).alloc (Nat.le_refl _) (.cells (ccells n k bs).toArray 35)).trans (hb1.mono (by simp)))
    clear hb1
    go_wp2_with fail
    go_ret2
    exact lout_nil rfl G.out
  | true =>
    obtain ⟨n1, n2, k1, k2⟩ := isCol_bd hi
    have HI := hidd hi
    obtain ⟨N, rfl⟩ := Int.eq_ofNat_of_zero_le (show 0 ≤ n by omega)
    have hN1 : 1 ≤ N := by omega
    have hN17 : N ≤ 17 := by omega
    by_cases h3 : k ≤ 3
    · have HHT := hidd (fun (hc : (lpP N bs == bs) = true) => qo_0 (n := (N : Int)) (k := k) hi h3 (by rw [Int.toNat_natCast]; exact hc))
      have HHF := hidd (fun (hc : (lpP N bs == bs) = false) => qo_5 (n := (N : Int)) (k := k) hi h3 (by rw [Int.toNat_natCast]; exact hc))
      rw [Int.toNat_natCast] at HHT
      have hd3 : decide (3 < k) = false := by simp; omega
      clear hi
      obtain ⟨PB, hPB⟩ : ∃ PB, PB = lpP N bs := ⟨_, rfl⟩
      have HPB := hidd (show Bys PB by rw [hPB]; exact lpP_bys hb N)
      have HCI := hidd (fun (a : Option Addr) (cap : Nat) (W : World) (hW : SlI W a (lpL N bs)) => by have h := scol42 (lpL N bs) a cap N k W hW (by rw [lpL_len]; omega) (by rw [lpL_len]; omega) (fcol_rng hb _); rw [lpL_len, show paintB N (prR (lpL N bs)) = PB from hPB.symm] at h; exact h)
      have HLN := hidd (lpL_len N bs)
      rw [← hPB] at HHT HHF
      obtain ⟨q, hq⟩ : ∃ q, q = (PB == bs) := ⟨_, rfl⟩
      have HQ := hidd hq
      clear hPB hq
      obtain ⟨t0, hi2, hz0, hz1, hz3⟩ := info_parts info2
      have HIF := hidd (And.intro hi2 (And.intro hz0 (And.intro hz1 hz3)))
      clear hi2 hz0 hz1 hz3
      go_enter Try.func26, Try.ntmps26
      go_wp2_with (refine wpList_load_row rfl 35 (.tmp 1) rfl w.heap.size rfl 35 _ (0,0) _ (Blk.new _ _ _ _ rfl) Try.underlying35 rfl HS.out ?_)
      refine (l01Is_any (N : Int) k bs hb _).mono ?_
      rintro e w1 ⟨rfl, hb1⟩
      rw [HI.out]
      have G := hidd (And.intro ((Blk.new w (ccells (N : Int) k bs).toArray 35 _ rfl).below hb1 (by simp)) (((Below.refl w.heap.size w).alloc (Nat.le_refl _) (.cells (ccells (N : Int) k bs).toArray 35)).trans (hb1.mono (by simp))))
      have c0 := G.out.1.cell HC0.out
      have c1 := G.out.1.cell HC1.out
      clear hb1
      go_wp2_with fail
      clear c0 c1
      go_loopw [4, 5] (fun v e wr => ∃ d : Nat, d ≤ N - 1 ∧ e = .int .i64 ((d : Int) + 1) ∧ RelLs bs (ccells (N : Int) k bs).toArray w d v wr) (fun _ e _ => N + 1 - (intOf e).toNat)
      case atStart =>
        have hlt1 := G.out.1.lt
        refine ⟨0, by omega, rfl, G.out.1.alloc _, ⟨rfl, .inr ⟨w1.heap.size, 0, #[], by simp [fillA], by omega, ?_, ?_, ?_, rfl, rfl⟩⟩, G.out.2.alloc G.out.2.size _⟩
        · exact Blk.new _ _ _ _ rfl
        · simp [fillA]
        · simp [maxLen]
      case round =>
        obtain ⟨d, hd2, rfl, HR⟩ := hrel
        have HK := hidd HR
        clear HR
        have c0 := HK.out.1.cell HC0.out
        by_cases hlt : d < N - 1
        · obtain ⟨v1, hv⟩ : ∃ v : Int, v = fcol bs d := ⟨_, rfl⟩
          have HV := hidd hv
          clear hv
          have HSN := hidd (fillA_snoc (fcol bs) d)
          have hdl : (d : Int) + 1 < (N : Int) := by omega
          go_wp2_with (refine wpList_load_row rfl 35 (.tmp 1) rfl w.heap.size rfl 35 _ (0,0) _ HK.out.1 Try.underlying35 rfl HS.out ?_)
          refine (at57 (N : Int) k bs hb (N : Int) 0 ((d : Int) + 1) _ (by omega) (by omega) (by omega) (by omega) (by omega) (by omega)).mono ?_
          rintro e w2 ⟨he, hb1⟩
          rw [show colAt bs 0 ((d : Int) + 1) = v1 from HV.out.symm] at he
          subst he
          have K1 := hidd (And.intro (HK.out.1.below hb1 HK.out.1.lt) (And.intro (own_below HK.out.2.1 hb1 (Nat.le_refl _)) (HK.out.2.2.trans (hb1.mono HK.out.2.2.size))))
          clear hb1 c0
          have hown := K1.out.2.1
          have hlen := fillA_len (fcol bs) d
          have hsz := K1.out.2.2.size
          have hszC := K1.out.1.lt
          go_wp2_with (at_builtin; refine wpList_append_own _ rfl _ _ 22 rfl (w.heap.size + 1) 2 t0 (.int .i64 0) 1 8 Try.underlying22 HIF.out.1 HIF.out.2.1 HIF.out.2.2.1 HIF.out.2.2.2 rfl (by decide) _ _ _ rfl (hown.alloc _) ⟨w2.heap.size, 0, none⟩ 1 1 [.int .i64 v1] rfl rfl ?c1 ?c2 ?c3 ?c4 ?c5 ?_)
          case c1 => exact one_new _ _ _
          case c2 => intro u hu; simp at hu; subst hu; rfl
          case c3 => unfold maxLen; omega
          case c4 => omega
          case c5 => simp; omega
          intro v' w3 hown' hgrow _
          have K3 := hidd (show RelLs bs (ccells (N : Int) k bs).toArray w (d + 1) v' w3 from ⟨K1.out.1.below (grown_step hown hgrow (by omega)) (by omega), by rw [HSN.out, ← HV.out, icells_app, List.length_append, fillA_len]; exact hown', K1.out.2.2.trans ((grown_step hown hgrow (by omega)).mono (by omega))⟩)
          clear hown' hgrow hown
          go_wp2
          go_roundw
          case rel => exact ⟨d + 1, by omega, by go_num, K3.out⟩
          case measure => simp [intOf]; omega
        · have hde : d = N - 1 := by omega
          subst hde
          obtain ⟨a, cap, rfl, ho⟩ := own_list HK.out.2.1
          have K := hidd (And.intro HK.out.1 (And.intro ho HK.out.2.2))
          have HL2 := hidd (fillA_len (fcol bs) (N - 1))
          clear HK ho
          rw [HL2.out]
          have hdi : decide (((N - 1 : Nat) : Int) + 1 < (N : Int)) = false := by simp; omega
          cases q with
          | true =>
            go_wp2_with fail
            refine wp_region_quiet_at (fun w' => Below wr.heap.size wr w') rfl (by kernel_rfl) ((Below.refl _ _).drew) ?_
            refine qs rfl (fun KQ hKQ => ?_)
            apply Exists.intro
            refine ⟨fun w' hw' => ?_, ?_⟩
            · go_simp; exact rfl
            go_simp
            refine hKQ _ ?_
            clear hKQ KQ
            refine qs rfl (fun KQ hKQ => ?_)
            apply Exists.intro
            refine ⟨fun w' hw' => ?_, ?_⟩
            · have c1 := (K.out.1.below hw' K.out.1.lt).cell HC1.out; go_simp; exact rfl
            go_simp
            refine hKQ _ ?_
            clear hKQ KQ
            refine qs rfl (fun KQ hKQ => ?_)
            apply Exists.intro
            refine ⟨fun w' hw' => ?_, ?_⟩
            · go_simp; exact rfl
            go_simp
            refine hKQ _ ?_
            clear hKQ KQ
            refine qs rfl (fun KQ hKQ => ?_)
            apply Exists.intro
            refine ⟨fun w' hw' => ?_, ?_⟩
            · go_simp; exact (HCI.out a cap _ (K.out.2.1.sl.below hw' (Nat.le_refl _))).mono fun _ _ h => ⟨h.1, hw'.trans (h.2.mono hw'.size)⟩
            go_simp
            refine hKQ _ ?_
            clear hKQ KQ
            refine qs rfl (fun KQ hKQ => ?_)
            apply Exists.intro
            refine ⟨fun w' hw' => ?_, ?_⟩
            · exact quietRow 35 (.tmp 1) rfl w.heap.size rfl 35 _ _ (K.out.1.below hw' K.out.1.lt) Try.underlying35 rfl HS.out
            go_simp
            refine hKQ _ ?_
            clear hKQ KQ
            refine qs rfl (fun KQ hKQ => ?_)
            apply Exists.intro
            refine ⟨fun w' hw' => ?_, ?_⟩
            · exact quietNeq25 _ _ rfl (N : Int) k PB bs HPB.out hb rfl rfl
            go_simp
            refine hKQ _ ?_
            clear hKQ KQ
            refine wpQuiet_nil ?_
            intro w' hw'
            rw [← HQ.out]
            have R := hidd (And.intro (K.out.2.1.below hw' (Nat.le_refl _)) (K.out.2.2.trans (hw'.mono K.out.2.2.size)))
            have HEE := hidd (HHT.out HQ.out.symm)
            clear hw'
            go_wp2_with fail
            go_ret2
            rw [HEE.out.1, HEE.out.2]
            exact ⟨a, cap, by rw [HLN.out]; rfl, ownL_base R.out.1 (by omega), R.out.2⟩
          | false =>
            go_wp2_with fail
            refine wp_region_quiet_at (fun w' => Below wr.heap.size wr w') rfl (by kernel_rfl) ((Below.refl _ _).drew) ?_
            refine qs rfl (fun KQ hKQ => ?_)
            apply Exists.intro
            refine ⟨fun w' hw' => ?_, ?_⟩
            · go_simp; exact rfl
            go_simp
            refine hKQ _ ?_
            clear hKQ KQ
            refine qs rfl (fun KQ hKQ => ?_)
            apply Exists.intro
            refine ⟨fun w' hw' => ?_, ?_⟩
            · have c1 := (K.out.1.below hw' K.out.1.lt).cell HC1.out; go_simp; exact rfl
            go_simp
            refine hKQ _ ?_
            clear hKQ KQ
            refine qs rfl (fun KQ hKQ => ?_)
            apply Exists.intro
            refine ⟨fun w' hw' => ?_, ?_⟩
            · go_simp; exact rfl
            go_simp
            refine hKQ _ ?_
            clear hKQ KQ
            refine qs rfl (fun KQ hKQ => ?_)
            apply Exists.intro
            refine ⟨fun w' hw' => ?_, ?_⟩
            · go_simp; exact (HCI.out a cap _ (K.out.2.1.sl.below hw' (Nat.le_refl _))).mono fun _ _ h => ⟨h.1, hw'.trans (h.2.mono hw'.size)⟩
            go_simp
            refine hKQ _ ?_
            clear hKQ KQ
            refine qs rfl (fun KQ hKQ => ?_)
            apply Exists.intro
            refine ⟨fun w' hw' => ?_, ?_⟩
            · exact quietRow 35 (.tmp 1) rfl w.heap.size rfl 35 _ _ (K.out.1.below hw' K.out.1.lt) Try.underlying35 rfl HS.out
            go_simp
            refine hKQ _ ?_
            clear hKQ KQ
            refine qs rfl (fun KQ hKQ => ?_)
            apply Exists.intro
            refine ⟨fun w' hw' => ?_, ?_⟩
            · exact quietNeq25 _ _ rfl (N : Int) k PB bs HPB.out hb rfl rfl
            go_simp
            refine hKQ _ ?_
            clear hKQ KQ
            refine wpQuiet_nil ?_
            intro w' hw'
            rw [← HQ.out]
            have R := hidd (And.intro (K.out.2.1.below hw' (Nat.le_refl _)) (K.out.2.2.trans (hw'.mono K.out.2.2.size)))
            have HEE := hidd (HHF.out HQ.out.symm)
            clear hw'
            go_wp2_with fail
            go_ret2
            rw [HEE.out.1, HEE.out.2]
            exact lout_nil rfl R.out.2
    · obtain ⟨e1, e2⟩ := qo_2 (bs := bs) hi h3
      rw [e1, e2]
      have hd3 : 3 < k := by omega
      clear e1 e2 h3 hi
      go_enter Try.func26, Try.ntmps26
      go_wp2_with (refine wpList_load_row rfl 35 (.tmp 1) rfl w.heap.size rfl 35 _ (0,0) _ (Blk.new _ _ _ _ rfl) Try.underlying35 rfl HS.out ?_)
      refine (l01Is_any (N : Int) k bs hb _).mono ?_
      rintro e w1 ⟨rfl, hb1⟩
      rw [HI.out]
      have G := hidd (And.intro ((Blk.new w (ccells (N : Int) k bs).toArray 35 _ rfl).below hb1 (by simp)) (((Below.refl w.heap.size w).alloc (Nat.le_refl _) (.cells (ccells (N : Int) k bs).toArray 35)).trans (hb1.mono (by simp))))
      have c1 := G.out.1.cell HC1.out
      clear hb1
      go_wp2_with fail
      go_ret2
      exact lout_nil rfl G.out.2
end Go.Proofs.Ythmjmlmmbmdodaa