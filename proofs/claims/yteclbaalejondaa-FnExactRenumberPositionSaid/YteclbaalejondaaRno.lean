/- RenumberPosition: the program and its model. -/
import Derived.Test.YteclbaalejondaaRni
import Derived.Test.YteclbaalejondaaOrM
namespace Go.Proofs.Yteclbaalejondaa
set_option linter.unusedVariables false
set_option linter.unusedSimpArgs false
open Go Go.RowKit Go.Shelf
def rpCd (n : Int) (zs ps : List Int) : Int := if lstB n zs = true ∧ ordB ps n = true then gmCode n zs else 2
def rpLs (n : Int) (zs ps : List Int) : List Int := if rpCd n zs ps = 0 then rnZ n.toNat zs ps else []
theorem rpc_2 {n : Int} {zs ps : List Int} (h : ¬ (lstB n zs = true ∧ ordB ps n = true)) : rpCd n zs ps = 2 := if_neg h
theorem rpc_c {n : Int} {zs ps : List Int} (h : lstB n zs = true) (h2 : ordB ps n = true) : rpCd n zs ps = gmCode n zs := if_pos ⟨h, h2⟩
theorem rpLs_no {n : Int} {zs ps : List Int} {c : Int} (h : rpCd n zs ps = c) (hc : c ≠ 0) : rpLs n zs ps = [] := if_neg (by rw [h]; exact hc)
theorem rpLs_0 {n : Int} {zs ps : List Int} (h : rpCd n zs ps = 0) : rpLs n zs ps = rnZ n.toNat zs ps := if_pos h
theorem rpc_inv {n : Int} {zs ps : List Int} (h : rpCd n zs ps = 0) : lstB n zs = true := by
  unfold rpCd at h
  split at h
  · rename_i h1; exact h1.1
  · omega
theorem rpc_len {n : Int} {zs ps : List Int} : (rpLs n zs ps).length ≤ 1000 := by
  by_cases h : rpCd n zs ps = 0
  · rw [rpLs_0 h, rnZ_len]
    obtain ⟨N, _, _, _, _, h10⟩ := lst_len (rpc_inv h)
    omega
  · rw [rpLs_no rfl h]; simp
theorem ordr_of {N : Nat} {ps : List Int} (h : ordB ps (N : Int) = true) : Ordr N ps := by
  unfold ordB at h
  simp only [Bool.and_eq_true, decide_eq_true_eq] at h
  refine ⟨by omega, h.2.2, fun x hx => ?_⟩
  have := inB_bd (allB_mem.1 h.2.1 x hx)
  omega
set_option maxRecDepth 100000 in
set_option maxHeartbeats 2000000 in
theorem spec26v (n : Int) (zs ps : List Int) (b cap pb capp : Nat) (w : World) (hs : SlI w (some ⟨b, 0, none⟩) zs) (hp : SlI w (some ⟨pb, 0, none⟩) ps) (hl : zs.length ≤ 9223372036854775807) (hpl : ps.length ≤ 9223372036854775807) :
    Calls Try.prog 26 #[.int .i64 n, .slice (some ⟨b, 0, none⟩) zs.length cap, .slice (some ⟨pb, 0, none⟩) ps.length capp] w (LOut w (rpLs n zs ps) (rpCd n zs ps)) := by
  have HLs := hidd (lists28 n zs (some ⟨b, 0, none⟩) cap w hs hl)
  have HC := hidd (fun w hs => code31 n zs (some ⟨b, 0, none⟩) cap w hs hl)
  have HSL := hidd hs
  have HPL := hidd hp
  cases q : lstB n zs with
  | false =>
    have hc := rpc_2 (n := n) (zs := zs) (ps := ps) (by rw [q]; simp)
    rw [rpLs_no hc (by decide), hc]
    rw [ls_2 q] at HLs
    clear hc q hs hp
    go_enter Try.func26, Try.ntmps26
    go_wp2_with fail
    refine HLs.out.mono ?_
    rintro x w' ⟨rfl, rfl⟩
    go_wp2_with fail
    go_ret2
    exact lout_nil rfl (Below.refl _ _)
  | true =>
    rw [ls_0 q] at HLs
    obtain ⟨N, rfl, n1, n5, hlen, hl10⟩ := lst_len q
    have HO := hidd (order63 ps (some ⟨pb, 0, none⟩) capp (N : Int) w hp hpl (by omega) (by omega))
    cases qo : ordB ps (N : Int) with
    | false =>
      rw [qo] at HO
      have hc := rpc_2 (n := (N : Int)) (zs := zs) (ps := ps) (by rw [qo]; simp)
      rw [rpLs_no hc (by decide), hc]
      clear hc q qo hlen hs hp
      go_enter Try.func26, Try.ntmps26
      go_wp2_with fail
      refine HLs.out.mono ?_
      rintro x w' ⟨rfl, rfl⟩
      go_wp2_with fail
      refine HO.out.mono ?_
      rintro x w2 ⟨rfl, hb2⟩
      have G := hidd hb2
      clear hb2
      go_wp2_with fail
      go_ret2
      exact lout_nil rfl G.out
    | true =>
      rw [qo] at HO
      have hOr := ordr_of qo
      have hc := rpc_c q qo
      by_cases h0 : gmCode (N : Int) zs = 0
      · have hc0 := hc.trans h0
        rw [rpLs_0 hc0, hc0, Int.toNat_natCast]
        rw [h0] at HC
        have HR := hidd (fun w hs hp => ren49 N zs ps n1 n5 hlen hOr b 0 cap (some ⟨pb, 0, none⟩) capp w hs hp)
        generalize rnZ N zs ps = R at *
        clear hc hc0 h0 q qo hlen hs hp
        go_enter Try.func26, Try.ntmps26
        go_wp2_with fail
        refine HLs.out.mono ?_
        rintro x w' ⟨rfl, rfl⟩
        go_wp2_with fail
        refine HO.out.mono ?_
        rintro x w2 ⟨rfl, hb2⟩
        have G := hidd hb2
        have HC2 := hidd (HC.out w2 (HSL.out.below hb2 (Nat.le_refl _)))
        have HR2 := hidd (HR.out w2 (HSL.out.below hb2 (Nat.le_refl _)) (HPL.out.below hb2 (Nat.le_refl _)))
        clear hb2
        go_wp2_with fail
        refine HC2.out.mono ?_
        rintro x w' ⟨rfl, rfl⟩
        go_wp2_with fail
        refine HR2.out.mono ?_
        rintro x w3 ⟨a3, c3, rfl, ho, hb3⟩
        have G3 := hidd (And.intro (ho.bas G.out.size) (G.out.trans (hb3.mono G.out.size)))
        clear ho hb3
        go_wp2_with fail
        go_ret2
        exact ⟨a3, c3, rfl, G3.out.1, G3.out.2⟩
      · rw [rpLs_no hc h0, hc]
        generalize gmCode (N : Int) zs = c at *
        have hne : (c != 0) = true := by rw [bne_iff_ne]; exact h0
        clear hc h0 q qo hlen hs hp
        go_enter Try.func26, Try.ntmps26
        go_wp2_with fail
        refine HLs.out.mono ?_
        rintro x w' ⟨rfl, rfl⟩
        go_wp2_with fail
        refine HO.out.mono ?_
        rintro x w2 ⟨rfl, hb2⟩
        have G := hidd hb2
        have HC2 := hidd (HC.out w2 (HSL.out.below hb2 (Nat.le_refl _)))
        clear hb2
        go_wp2_with fail
        refine HC2.out.mono ?_
        rintro x w' ⟨rfl, rfl⟩
        go_wp2_with fail
        go_ret2
        exact lout_nil rfl G.out
set_option maxRecDepth 100000 in
set_option maxHeartbeats 2000000 in
theorem impl27v (n : Int) (zs ps : List Int) (b cap pb capp : Nat) (w : World) (hbw : b < w.heap.size) (hpw : pb < w.heap.size) (hs : SlI w (some ⟨b, 0, none⟩) zs) (hp : SlI w (some ⟨pb, 0, none⟩) ps) (hl : zs.length ≤ 9223372036854775807) (hpl : ps.length ≤ 9223372036854775807) :
    Calls Try.prog 27 #[.int .i64 n, .slice (some ⟨b, 0, none⟩) zs.length cap, .slice (some ⟨pb, 0, none⟩) ps.length capp] w (LOut w (rpLs n zs ps) (rpCd n zs ps)) := by
  have HE := hidd (enter30 n zs (some ⟨b, 0, none⟩) cap w hs hl)
  obtain ⟨V, hV, hVs, hV0, hV1, hV2⟩ := en_cells n zs
  rw [hV] at HE
  have HVS := hidd (And.intro hVs (And.intro hV0 hV1))
  have HSL := hidd hs
  have HPL := hidd hp
  have Hz := zero40
  clear hV hVs hV0 hV1 hV2 hs hp
  cases q : lstB n zs with
  | false =>
    have hc := rpc_2 (n := n) (zs := zs) (ps := ps) (by rw [q]; simp)
    rw [rpLs_no hc (by decide), hc]
    rw [gm_2 q] at HE
    clear hc q
    go_enter Try.func27, Try.ntmps27
    go_wp2_with fail
    refine HE.out.mono ?_
    rintro x w1 ⟨rfl, hb1⟩
    have G3 := hidd (show Blk (w1.alloc (.cells (psC 0 0 0) 40)) w1.heap.size (psC 0 0 0) 40 from Blk.new _ _ _ _ rfl)
    have G4 := hidd (show Below w.heap.size w ((w1.alloc (.cells (psC 0 0 0) 40)).setRow w1.heap.size V) from below_setRow (hb1.alloc hb1.size _) hb1.size _)
    clear hb1
    go_wp2_with (refine wpList_store_row rfl 40 (.tmp 8) (.tmp 14) rfl w1.heap.size V rfl rfl 40 _ G3.out HVS.out.1 HVS.out.2.1 HVS.out.2.2 ?_)
    go_ret2
    exact lout_nil rfl G4.out
  | true =>
    obtain ⟨N, rfl, n1, n5, hlen, hl10⟩ := lst_len q
    have hne2 : gmCode (N : Int) zs ≠ 2 := by
      cases p : posB N zs with
      | false => rw [gm_1 q (by rw [Int.toNat_natCast]; exact p)]; decide
      | true => rw [gm_0 q (by rw [Int.toNat_natCast]; exact p)]; decide
    have hd2 : (gmCode (N : Int) zs == 2) = false := beq_eq_false_iff_ne.2 hne2
    have HO := hidd (fun w hp => order65 ps (some ⟨pb, 0, none⟩) capp (N : Int) w hp hpl (by omega) (by omega))
    cases qo : ordB ps (N : Int) with
    | false =>
      rw [qo] at HO
      have hc := rpc_2 (n := (N : Int)) (zs := zs) (ps := ps) (by rw [qo]; simp)
      rw [rpLs_no hc (by decide), hc]
      generalize gmCode (N : Int) zs = c at *
      clear hc q qo hlen hne2
      go_enter Try.func27, Try.ntmps27
      go_wp2_with fail
      refine HE.out.mono ?_
      rintro x w1 ⟨rfl, hb1⟩
      have G3 := hidd (show Blk (w1.alloc (.cells (psC 0 0 0) 40)) w1.heap.size (psC 0 0 0) 40 from Blk.new _ _ _ _ rfl)
      have G4 := hidd (show Below w.heap.size w ((w1.alloc (.cells (psC 0 0 0) 40)).setRow w1.heap.size V) from below_setRow (hb1.alloc hb1.size _) hb1.size _)
      clear hb1
      go_wp2_with (refine wpList_store_row rfl 40 (.tmp 8) (.tmp 14) rfl w1.heap.size V rfl rfl 40 _ G3.out HVS.out.1 HVS.out.2.1 HVS.out.2.2 ?_)
      refine (HO.out _ (HPL.out.below G4.out (Nat.le_refl _))).mono ?_
      rintro x w2 ⟨rfl, hb2⟩
      have G := hidd (G4.out.trans (hb2.mono G4.out.size))
      clear hb2
      go_wp2_with fail
      go_ret2
      exact lout_nil rfl G.out
    | true =>
      rw [qo] at HO
      have hOr := ordr_of qo
      have hc := rpc_c q qo
      by_cases h0 : gmCode (N : Int) zs = 0
      · have hc0 := hc.trans h0
        rw [rpLs_0 hc0, hc0, Int.toNat_natCast]
        rw [h0] at HE
        have HR := hidd (fun w hbw hpw hs hp => ren51 N zs ps n1 n5 hlen hOr b 0 cap pb 0 capp w hbw hpw hs hp)
        generalize rnZ N zs ps = R at *
        clear hc hc0 h0 q qo hlen hne2 hd2
        go_enter Try.func27, Try.ntmps27
        go_wp2_with fail
        refine HE.out.mono ?_
        rintro x w1 ⟨rfl, hb1⟩
        have G3 := hidd (show Blk (w1.alloc (.cells (psC 0 0 0) 40)) w1.heap.size (psC 0 0 0) 40 from Blk.new _ _ _ _ rfl)
        have G4 := hidd (show Below w.heap.size w ((w1.alloc (.cells (psC 0 0 0) 40)).setRow w1.heap.size V) from below_setRow (hb1.alloc hb1.size _) hb1.size _)
        clear hb1
        go_wp2_with (refine wpList_store_row rfl 40 (.tmp 8) (.tmp 14) rfl w1.heap.size V rfl rfl 40 _ G3.out HVS.out.1 HVS.out.2.1 HVS.out.2.2 ?_)
        refine (HO.out _ (HPL.out.below G4.out (Nat.le_refl _))).mono ?_
        rintro x w2 ⟨rfl, hb2⟩
        have G := hidd (G4.out.trans (hb2.mono G4.out.size))
        have HR2 := hidd (HR.out w2 (Nat.lt_of_lt_of_le hbw G.out.size) (Nat.lt_of_lt_of_le hpw G.out.size) (HSL.out.below G.out (Nat.le_refl _)) (HPL.out.below G.out (Nat.le_refl _)))
        clear hb2
        go_wp2_with fail
        refine HR2.out.mono ?_
        rintro x w3 ⟨a3, c3, rfl, ho, hb3⟩
        have G5 := hidd (And.intro (ho.bas G.out.size) (G.out.trans (hb3.mono G.out.size)))
        clear ho hb3
        go_wp2_with fail
        go_ret2
        exact ⟨a3, c3, rfl, G5.out.1, G5.out.2⟩
      · rw [rpLs_no hc h0, hc]
        generalize gmCode (N : Int) zs = c at *
        have hne : (c != 0) = true := by rw [bne_iff_ne]; exact h0
        clear hc h0 q qo hlen hne2
        go_enter Try.func27, Try.ntmps27
        go_wp2_with fail
        refine HE.out.mono ?_
        rintro x w1 ⟨rfl, hb1⟩
        have G3 := hidd (show Blk (w1.alloc (.cells (psC 0 0 0) 40)) w1.heap.size (psC 0 0 0) 40 from Blk.new _ _ _ _ rfl)
        have G4 := hidd (show Below w.heap.size w ((w1.alloc (.cells (psC 0 0 0) 40)).setRow w1.heap.size V) from below_setRow (hb1.alloc hb1.size _) hb1.size _)
        clear hb1
        go_wp2_with (refine wpList_store_row rfl 40 (.tmp 8) (.tmp 14) rfl w1.heap.size V rfl rfl 40 _ G3.out HVS.out.1 HVS.out.2.1 HVS.out.2.2 ?_)
        refine (HO.out _ (HPL.out.below G4.out (Nat.le_refl _))).mono ?_
        rintro x w2 ⟨rfl, hb2⟩
        have G := hidd (G4.out.trans (hb2.mono G4.out.size))
        clear hb2
        go_wp2_with fail
        go_ret2
        exact lout_nil rfl G.out
end Go.Proofs.Yteclbaalejondaa
