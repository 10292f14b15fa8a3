/- ConnectedColours: the program; both sides whole. -/
import Derived.Test.YtkiocedhibeieaaDoorCns
namespace Go.Proofs.YtkiocedhibeieaaDoor
set_option linter.unusedVariables false
set_option linter.unusedSimpArgs false
open Go Go.RowKit Go.Shelf
set_option maxRecDepth 100000 in
set_option maxHeartbeats 4000000 in
theorem impl38_good (N K : Nat) (bs : List Nat) (hb : Bys bs) (n1 : 1 ≤ N) (n2 : N ≤ 17) (k2 : K ≤ 4) (hi : isCol (N : Int) (K : Int) bs = true) (w : World) (hT : Tz w) (hw0 : 0 < w.heap.size) :
    Calls Tryd.prog 38 #[.agg (ccells (N : Int) (K : Int) bs).toArray] w (LOut w (nbK (cnB N bs) K) 0) := by
  have HS := hidd (size_c26 (N : Int) (K : Int) hb)
  have HC1 := hidd (show (ccells (N : Int) (K : Int) bs).toArray[1]? = some (.int .i64 (K : Int)) from rfl)
  have HIS := hidd (fun W => implIs_any (N : Int) (K : Int) bs hb W)
  rw [hi] at HIS
  have HG := hidd (fun (j : Nat) (hj : j < K) W => graph63_0 N (K : Int) (j : Int) bs hb W n1 n2 hi (by simp only [belowB, inB, Bool.and_eq_true, decide_eq_true_eq]; omega))
  obtain ⟨U, hU⟩ : ∃ U, U = 2 ^ N - 1 := ⟨_, rfl⟩
  have hU17 : U < 2 ^ 17 := by rw [hU]; have := Nat.pow_le_pow_right (show 0 < 2 by omega) n2; have := Nat.two_pow_pos N; omega
  rw [← hU] at HG
  have HCO := hidd (fun (j : Nat) W hW hp => (components68 U (nsF bs (j : Int) (eseq N)) (nsF_lt _ _ _) hU17 (by rw [hU, cpSets_impl bs _ n2]; have := cpSets_len N bs (j : Int); omega) W hW hp))
  have HCP := hidd (fun (j : Nat) => (show cpl (nsF bs (j : Int) (eseq N)) U = cpSets N bs (j : Int) by rw [hU]; exact cpSets_impl bs _ n2))
  have Hz := zero79
  have HZ1 := hidd (fun F => size79 U F)
  have HO1 := hidd (fun F => show (gcell 0 fun _ => 0).toArray.size = (gcell U F).toArray.size by simp [gcell_len])
  have HA1 := hidd (fun F => gcell_one U F)
  have HT := hidd hT
  obtain ⟨t0, hi2, hz0, hz1, hz3⟩ := info_parts info2
  have HIF := hidd (And.intro hi2 (And.intro hz0 (And.intro hz1 hz3)))
  clear hi hU hT hi2 hz0 hz1 hz3
  go_enter Tryd.func38, Tryd.ntmps38
  go_wp2_with (refine wpList_load_row rfl 28 (.tmp 1) rfl w.heap.size rfl 28 _ (0,0) _ (Blk.new _ _ _ _ rfl) Tryd.underlying28 rfl HS.out ?_)
  refine (HIS.out _).mono ?_
  rintro e w1 ⟨rfl, hb1⟩
  have HR0 : RelCj (ccells (N : Int) (K : Int) bs).toArray (cnB N bs) w 0 (.slice none 0 0) w1 ∧ Tz w1 := by
    have g0 := (Blk.new w (ccells (N : Int) (K : Int) bs).toArray 28 _ rfl).below hb1 (by simp)
    have g1 := ((Below.refl w.heap.size w).alloc (Nat.le_refl _) (.cells (ccells (N : Int) (K : Int) bs).toArray 28)).trans (hb1.mono (by simp))
    exact ⟨⟨g0, ⟨rfl, .inl ⟨rfl, rfl⟩⟩, g1⟩, HT.out.below g1 hw0⟩
  have c1 := HR0.1.1.cell HC1.out
  have HR0 := hidd HR0
  clear hb1
  go_wp2_with fail
  clear c1
  go_loopw [4, 13] (fun eo ej wr => ∃ (j : Nat) (vo : Value), j ≤ K ∧ ej = .int .i64 (j : Int) ∧ vo = eo ∧ Hid (RelCj (ccells (N : Int) (K : Int) bs).toArray (cnB N bs) w j vo wr ∧ Tz wr)) (fun _ ej _ => K - (intOf ej).toNat)
  case atStart => exact ⟨0, _, by omega, rfl, rfl, HR0⟩
  case round =>
    clear HR0
    obtain ⟨j, vo, hj, rfl, rfl, HK⟩ := hrel
    by_cases hlt : j < K
    · have hltI : decide ((j : Int) < (K : Int)) = true := by simp; omega
      have HGJ := hidd (HG.out j hlt)
      have HCJ := hidd (HCO.out j)
      rw [HCP.out j] at HCJ
      obtain ⟨F, hF⟩ : ∃ F, F = nsF bs (j : Int) (eseq N) := ⟨_, rfl⟩
      rw [← hF] at HGJ HCJ
      obtain ⟨S, hS⟩ : ∃ S, S = cpSets N bs (j : Int) := ⟨_, rfl⟩
      have HIFF := hidd (cn_iff N bs j n1 n2)
      rw [← hS] at HIFF HCJ
      have hlen : (nbK (cnB N bs) j).length ≤ 4 := by have := nbK_len (cnB N bs) j; omega
      clear hF hS
      go_wp2_with (refine wpList_load_row rfl 28 (.tmp 1) rfl w.heap.size rfl 28 _ (0,0) _ HK.out.1.1 Tryd.underlying28 rfl HS.out ?_)
      refine (HGJ.out _).mono ?_
      rintro e w2 ⟨rfl, hb2⟩
      have B1 : Below w2.heap.size w2 ((w2.alloc (.cells (gcell 0 fun _ => 0).toArray 79)).setRow w2.heap.size (gcell U F).toArray) := below_setRow ((Below.refl _ _).alloc (Nat.le_refl _) _) (Nat.le_refl _) _
      have b2 := hb2.trans (B1.mono hb2.size)
      have hwr : 0 < wr.heap.size := by have := HK.out.1.2.2.size; omega
      have G1 := hidd (And.intro ((Blk.new w2 (gcell 0 fun _ => 0).toArray 79 _ rfl).rowSame (gcell U F).toArray) (And.intro b2 (HK.out.2.below b2 hwr)))
      clear hb2 B1 b2
      go_wp2_with (first
        | (refine wpList_store_row rfl 79 (.tmp 6) (.tmp 20) rfl w2.heap.size _ rfl rfl 79 _ (Blk.new _ _ _ _ rfl) (HZ1.out F) (HO1.out F) (HA1.out F) ?_)
        | (refine wpList_load_row rfl 79 (.tmp 6) rfl w2.heap.size rfl 79 _ (0,0) _ G1.out.1 Tryd.underlying79 rfl (HZ1.out F) ?_))
      refine (HCJ.out _ G1.out.2.2 (by have := G1.out.2.1.size; omega)).mono ?_
      rintro e w3 ⟨vs, rfl, hul, hb3⟩
      obtain ⟨a, cap, rfl, _⟩ := hul.reads
      have b3 := G1.out.2.1.trans (hb3.mono G1.out.2.1.size)
      have K1 := hidd (show RelCj (ccells (N : Int) (K : Int) bs).toArray (cnB N bs) w j vo w3 ∧ Tz w3 from ⟨HK.out.1.below b3, HK.out.2.below b3 hwr⟩)
      clear hul hb3 b3
      obtain ⟨ln, hln⟩ : ∃ ln, ln = S.length := ⟨_, rfl⟩
      rw [← hln] at HIFF ⊢
      clear hln
      cases hq : ((ln : Int) == 1) with
      | true =>
        have HP := hidd (show cnB N bs j = true from HIFF.out.1 (by have := eq_of_beq hq; omega))
        have hown := K1.out.1.2.1
        have hsz := K1.out.1.2.2.size
        have hlt1 := K1.out.1.1.lt
        have hw3 : 0 < w3.heap.size := by omega
        go_wp2_with (at_builtin; refine wpList_append_own _ rfl _ _ 25 rfl (w.heap.size + 1) 2 t0 (.int .i64 0) 1 8 Tryd.underlying25 HIF.out.1 HIF.out.2.1 HIF.out.2.2.1 HIF.out.2.2.2 rfl (by decide) _ _ _ rfl (hown.alloc _) ⟨_, 0, none⟩ 1 1 [.int .i64 (j : Int)] rfl rfl ?c1 ?c2 ?c3 ?c4 ?c5 ?_)
        case c1 => exact one_new _ _ _
        case c2 => intro u hu; simp at hu; subst hu; rfl
        case c3 => unfold maxLen; omega
        case c4 => omega
        case c5 => simp; omega
        intro v' w4 hown' hgrow _
        have K3 := hidd (And.intro (K1.out.1.more HP.out hgrow hown') (show Tz w4 from K1.out.2.below (grown_step hown hgrow (by omega)) (by omega)))
        clear hown' hgrow hown
        go_wp2
        go_roundw
        case rel => exact ⟨j + 1, v', by omega, by go_num, rfl, K3⟩
        case measure => simp [intOf]; omega
      | false =>
        have HP := hidd (show cnB N bs j = false by
          cases h : cnB N bs j
          · rfl
          · have := HIFF.out.2 h
            subst this
            simp at hq)
        have K3 := hidd (And.intro (K1.out.1.skip HP.out) K1.out.2)
        go_wp2_with fail
        go_roundw
        case rel => exact ⟨j + 1, vo, by omega, by go_num, rfl, K3⟩
        case measure => simp [intOf]; omega
    · have hltI : decide ((j : Int) < (K : Int)) = false := by simp; omega
      have hjK : j = K := by omega
      subst hjK
      obtain ⟨a9, c9, rfl, hLO⟩ := own_list HK.out.1.2.1
      have K9 := hidd (And.intro (ownL_base hLO (Nat.le_succ _)) HK.out.1.2.2)
      clear hLO
      go_wp2_with fail
      go_ret2
      exact ⟨a9, c9, rfl, K9.out.1, K9.out.2⟩
set_option maxRecDepth 100000 in
theorem spec37 (n k : Int) (bs : List Nat) (hb : Bys bs) (w : World) : Calls Tryd.prog 37 #[.agg (ccells n k bs).toArray] w (LOut w (cnL n k bs) (cnCode n k bs)) := by
  cases hi : isCol n k bs with
  | true =>
    obtain ⟨n1, n2, k1, k2⟩ := isCol_bd hi
    obtain ⟨N, rfl⟩ := Int.eq_ofNat_of_zero_le (show 0 ≤ n by omega)
    obtain ⟨K, rfl⟩ := Int.eq_ofNat_of_zero_le (show 0 ≤ k by omega)
    unfold cnL cnCode
    rw [if_pos hi, if_pos hi, Int.toNat_natCast, Int.toNat_natCast]
    exact spec37_good N K bs hb (by omega) (by omega) (by omega) hi w
  | false =>
    unfold cnL cnCode
    rw [if_neg (by rw [hi]; simp), if_neg (by rw [hi]; simp)]
    have HS := hidd (size_c26 n k hb)
    have HIS := hidd (fun W => l01Is_any n k bs hb W)
    rw [hi] at HIS
    clear hi
    go_enter Tryd.func37, Tryd.ntmps37
    go_wp2_with (refine wpList_load_row rfl 28 (.tmp 1) rfl w.heap.size rfl 28 _ (0,0) _ (Blk.new _ _ _ _ rfl) Tryd.underlying28 rfl HS.out ?_)
    refine (HIS.out _).mono ?_
    rintro e w1 ⟨rfl, hb1⟩
    have G := hidd (((Below.refl w.heap.size w).alloc (Nat.le_refl _) (.cells (ccells n k bs).toArray 28)).trans (hb1.mono (by simp)))
    clear hb1
    go_wp2_with fail
    go_ret2
    exact ⟨none, 0, rfl, .inl rfl, G.out⟩
set_option maxRecDepth 100000 in
theorem impl38 (n k : Int) (bs : List Nat) (hb : Bys bs) (w : World) (hT : Tz w) (hw0 : 0 < w.heap.size) : Calls Tryd.prog 38 #[.agg (ccells n k bs).toArray] w (LOut w (cnL n k bs) (cnCode n k bs)) := by
  cases hi : isCol n k bs with
  | true =>
    obtain ⟨n1, n2, k1, k2⟩ := isCol_bd hi
    obtain ⟨N, rfl⟩ := Int.eq_ofNat_of_zero_le (show 0 ≤ n by omega)
    obtain ⟨K, rfl⟩ := Int.eq_ofNat_of_zero_le (show 0 ≤ k by omega)
    unfold cnL cnCode
    rw [if_pos hi, if_pos hi, Int.toNat_natCast, Int.toNat_natCast]
    exact impl38_good N K bs hb (by omega) (by omega) (by omega) hi w hT hw0
  | false =>
    unfold cnL cnCode
    rw [if_neg (by rw [hi]; simp), if_neg (by rw [hi]; simp)]
    have HS := hidd (size_c26 n k hb)
    have HIS := hidd (fun W => implIs_any n k bs hb W)
    rw [hi] at HIS
    clear hi
    go_enter Tryd.func38, Tryd.ntmps38
    go_wp2_with (refine wpList_load_row rfl 28 (.tmp 1) rfl w.heap.size rfl 28 _ (0,0) _ (Blk.new _ _ _ _ rfl) Tryd.underlying28 rfl HS.out ?_)
    refine (HIS.out _).mono ?_
    rintro e w1 ⟨rfl, hb1⟩
    have G := hidd (((Below.refl w.heap.size w).alloc (Nat.le_refl _) (.cells (ccells n k bs).toArray 28)).trans (hb1.mono (by simp)))
    clear hb1
    go_wp2_with fail
    go_ret2
    exact ⟨none, 0, rfl, .inl rfl, G.out⟩
theorem cnL_len (n k : Int) (bs : List Nat) : (cnL n k bs).length ≤ 17 := by
  unfold cnL
  cases hi : isCol n k bs with
  | true =>
    obtain ⟨n1, n2, k1, k2⟩ := isCol_bd hi
    rw [if_pos rfl]
    have := nbK_len (cnB n.toNat bs) k.toNat
    omega
  | false => simp
end Go.Proofs.YtkiocedhibeieaaDoor
