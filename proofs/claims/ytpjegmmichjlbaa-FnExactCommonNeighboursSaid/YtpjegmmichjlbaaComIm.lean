/- CommonNeighbours: the program. -/
import Derived.Test.YtpjegmmichjlbaaCom
namespace Go.Proofs.Ytpjegmmichjlbaa
set_option linter.unusedVariables false
set_option linter.unusedSimpArgs false
open Go Go.RowKit Go.Shelf
theorem colAt_comm (bs : List Nat) {i j : Int} (h : i ≠ j) : colAt bs i j = colAt bs j i := by unfold colAt; rw [eix_comm h]
def cmf (bs : List Nat) (j c z : Int) : Bool := decide (z ≠ j) && decide (colAt bs z j = c)
theorem nbK_sift (p : Nat → Bool) (f : Int → Bool) : ∀ N, (nbK p N).filter f = nbK (fun q => p q && f (q : Int)) N
  | 0 => rfl
  | N + 1 => by
    rw [nbK, nbK, ← nbK_sift p f N]
    by_cases hp : p N = true
    · rw [if_pos hp, List.filter_append]
      by_cases hf : f (N : Int) = true
      · rw [if_pos (by rw [hp, hf]; rfl), List.filter_cons_of_pos hf]; rfl
      · rw [if_neg (by rw [hp]; simpa using hf), List.filter_cons_of_neg hf]; simp
    · rw [if_neg hp, if_neg (by simp [hp])]
theorem cm_sift (bs : List Nat) (i j c : Int) (N : Nat) : (nbK (nbB bs i c) N).filter (cmf bs j c) = nbK (cmB bs i j c) N := by
  rw [nbK_sift]
  refine nbK_congr N fun q _ => ?_
  unfold cmB cmf
  congr 1
  unfold nbB
  by_cases h : (q : Int) = j
  · simp [h]
  · rw [colAt_comm bs h]
def siftK (f : Int → Bool) (zs : List Int) (m : Nat) : List Int := (zs.take m).filter f
theorem sift_len (f : Int → Bool) (zs : List Int) (m : Nat) : (siftK f zs m).length ≤ m := by
  unfold siftK
  exact Nat.le_trans (List.length_filter_le _ _) (by simp; omega)
theorem sift_yes {f : Int → Bool} {zs : List Int} {m : Nat} (h : m < zs.length) (hf : f (zs.getD m 0) = true) : siftK f zs (m + 1) = siftK f zs m ++ [zs.getD m 0] := by
  have hg : zs.getD m 0 = zs[m] := by simp [List.getD, List.getElem?_eq_getElem h]
  unfold siftK
  rw [List.take_succ_eq_append_getElem h, List.filter_append, ← hg, List.filter_cons_of_pos hf]; rfl
theorem sift_no {f : Int → Bool} {zs : List Int} {m : Nat} (h : m < zs.length) (hf : f (zs.getD m 0) = false) : siftK f zs (m + 1) = siftK f zs m := by
  have hg : zs.getD m 0 = zs[m] := by simp [List.getD, List.getElem?_eq_getElem h]
  unfold siftK
  rw [List.take_succ_eq_append_getElem h, List.filter_append, ← hg, List.filter_cons_of_neg (by rw [hf]; simp)]; simp
theorem sift_all (f : Int → Bool) (zs : List Int) : siftK f zs zs.length = zs.filter f := by unfold siftK; rw [List.take_length]
def RelCm (f : Int → Bool) (zs : List Int) (w2 : World) (m : Nat) (v : Value) (wr : World) : Prop :=
  wr.ownsRow w2.heap.size 2 1 v (siftK f zs m).length (icells (siftK f zs m)) ∧ Below w2.heap.size w2 wr
theorem RelCm.skip {f : Int → Bool} {zs : List Int} {w2 wr w1 : World} {m : Nat} {v : Value} (h : RelCm f zs w2 m v wr) (hb : Below wr.heap.size wr w1) (e : siftK f zs (m + 1) = siftK f zs m) : RelCm f zs w2 (m + 1) v w1 :=
  ⟨by rw [e]; exact own_below h.1 hb (Nat.le_refl _), h.2.trans (hb.mono h.2.size)⟩
set_option maxRecDepth 100000 in
set_option maxHeartbeats 4000000 in
theorem impl28 (n k : Int) (bs : List Nat) (hb : Bys bs) (i j c : Int) (w : World) :
    Calls Try.prog 28 #[.agg (ccells n k bs).toArray, .int .i64 i, .int .i64 j, .int .i64 c] w (LOut w (cmList n k bs i j c) (cmCode n k bs i j c)) := by
  have HS := hidd (size_c26 n k hb)
  have HC0 := hidd (show (ccells n k bs).toArray[0]? = some (.int .i64 n) from rfl)
  have HC1 := hidd (show (ccells n k bs).toArray[1]? = some (.int .i64 k) from rfl)
  have hmk : ∀ w0, w0 = w.alloc (.cells (ccells n k bs).toArray 29) → ∀ w1, Below w0.heap.size w0 w1 → Rel63 (ccells n k bs).toArray w w1 := by
    rintro w0 rfl w1 hb1
    exact ⟨(Blk.new _ _ _ _ rfl).below hb1 (by simp), ((Below.refl w.heap.size w).alloc (Nat.le_refl _) (.cells (ccells n k bs).toArray 29)).trans (hb1.mono (by simp))⟩
  have HMK := hidd hmk
  clear hmk
  cases hi : isCol n k bs with
  | false =>
    obtain ⟨v1, v2⟩ := cm_bad (cmCode_1 (i := i) (j := j) (c := c) hi) (by omega)
    rw [v1, v2]
    have HI := hidd hi
    clear hi v1 v2
    go_enter Try.func28, Try.ntmps28
    go_wp2_with (refine wpList_load_row rfl 29 (.tmp 4) rfl w.heap.size rfl 29 _ (0,0) _ (Blk.new _ _ _ _ rfl) Try.underlying29 rfl HS.out ?_)
    refine (implIs_any n k bs hb _).mono ?_
    rintro e w1 ⟨rfl, hb1⟩
    rw [HI.out]
    have R := hidd (HMK.out _ rfl _ hb1)
    clear hb1
    go_wp2
    go_ret2
    exact lout_nil rfl R.out.2
  | true =>
    have HI := hidd hi
    obtain ⟨n1, n2, k1, k2⟩ := isCol_bd hi
    cases hij : pairB i j n with
    | false =>
      obtain ⟨v1, v2⟩ := cm_bad (cmCode_2 (i := i) (j := j) (c := c) hi (by rw [hij]; rfl)) (by omega)
      rw [v1, v2]
      have HIJ := hidd hij
      clear hi hij v1 v2
      go_enter Try.func28, Try.ntmps28
      go_wp2_with (refine wpList_load_row rfl 29 (.tmp 4) rfl w.heap.size rfl 29 _ (0,0) _ (Blk.new _ _ _ _ rfl) Try.underlying29 rfl HS.out ?_)
      refine (implIs_any n k bs hb _).mono ?_
      rintro e w1 ⟨rfl, hb1⟩
      rw [HI.out]
      have R := hidd (HMK.out _ rfl _ hb1)
      have c0 := R.out.1.cell HC0.out
      clear hb1
      go_wp2_with fail
      refine (pair58 i j n w1).mono ?_
      rintro e _ ⟨rfl, rfl⟩
      rw [HIJ.out]
      go_wp2
      go_ret2
      exact lout_nil rfl R.out.2
    | true =>
      have HIJ := hidd hij
      cases hcb : belowB c k with
      | false =>
        obtain ⟨v1, v2⟩ := cm_bad (cmCode_2 (i := i) (j := j) (c := c) hi (by rw [hcb, Bool.and_false])) (by omega)
        rw [v1, v2]
        have HB := hidd hcb
        clear hi hij hcb v1 v2
        go_enter Try.func28, Try.ntmps28
        go_wp2_with (refine wpList_load_row rfl 29 (.tmp 4) rfl w.heap.size rfl 29 _ (0,0) _ (Blk.new _ _ _ _ rfl) Try.underlying29 rfl HS.out ?_)
        refine (implIs_any n k bs hb _).mono ?_
        rintro e w1 ⟨rfl, hb1⟩
        rw [HI.out]
        have R := hidd (HMK.out _ rfl _ hb1)
        have c0 := R.out.1.cell HC0.out
        have c1 := R.out.1.cell HC1.out
        clear hb1
        go_wp2_with fail
        refine (pair58 i j n w1).mono ?_
        rintro e _ ⟨rfl, rfl⟩
        rw [HIJ.out]
        go_wp2_with fail
        refine (below61 c k w1).mono ?_
        rintro e _ ⟨rfl, rfl⟩
        rw [HB.out]
        go_wp2
        go_ret2
        exact lout_nil rfl R.out.2
      | true =>
        have HB := hidd hcb
        obtain ⟨v1, v2⟩ := cm_good (cmCode_0 (i := i) (j := j) (c := c) hi (by rw [hij, hcb]; rfl))
        rw [v1, v2]
        obtain ⟨i0, i1, j0, j1, hne⟩ := pairB_bd hij
        obtain ⟨N, rfl⟩ := Int.eq_ofNat_of_zero_le (show 0 ≤ n by omega)
        rw [Int.toNat_natCast]
        obtain ⟨zs, hzs⟩ : ∃ zs, zs = nbK (nbB bs i c) N := ⟨_, rfl⟩
        obtain ⟨f, hf⟩ : ∃ f, f = cmf bs j c := ⟨_, rfl⟩
        have HF := hidd hf
        have HIN := hidd (show ∀ m, m < zs.length → 0 ≤ zs.getD m 0 ∧ zs.getD m 0 < (N : Int) from fun m hm => by subst hzs; exact nbK_in _ N m hm)
        have HFIN := hidd (show siftK f zs zs.length = nbK (cmB bs i j c) N by rw [sift_all, hf, hzs]; exact cm_sift bs i j c N)
        have hzl : zs.length ≤ 17 := by subst hzs; have := nbK_len (nbB bs i c) N; omega
        have HNB := hidd (fun W => nbrs64 (N : Int) k bs hb i c W n1 n2 i0 i1)
        have HZS := hidd hzs
        rw [← HFIN.out]
        obtain ⟨t0, hi2, hz0, hz1, hz2⟩ := info_parts info2
        have HIF := hidd (And.intro hi2 (And.intro hz0 (And.intro hz1 hz2)))
        clear hi hij hcb v1 v2 hf hzs hi2 hz0 hz1 hz2
        go_enter Try.func28, Try.ntmps28
        go_wp2_with (refine wpList_load_row rfl 29 (.tmp 4) rfl w.heap.size rfl 29 _ (0,0) _ (Blk.new _ _ _ _ rfl) Try.underlying29 rfl HS.out ?_)
        refine (implIs_any (N : Int) k bs hb _).mono ?_
        rintro e w1 ⟨rfl, hb1⟩
        rw [HI.out]
        have R := hidd (HMK.out _ rfl _ hb1)
        have c0 := R.out.1.cell HC0.out
        have c1 := R.out.1.cell HC1.out
        clear hb1
        go_wp2_with fail
        refine (pair58 i j (N : Int) w1).mono ?_
        rintro e _ ⟨rfl, rfl⟩
        rw [HIJ.out]
        go_wp2_with fail
        refine (below61 c k w1).mono ?_
        rintro e _ ⟨rfl, rfl⟩
        rw [HB.out]
        clear c0 c1
        go_wp2_with (refine wpList_load_row rfl 29 (.tmp 4) rfl w.heap.size rfl 29 _ (0,0) _ R.out.1 Try.underlying29 rfl HS.out ?_)
        refine (HNB.out _).mono ?_
        rintro e w2 ⟨v, rfl, hown, hb2⟩
        rw [Int.toNat_natCast, ← HZS.out] at hown
        obtain ⟨a, cap, rfl, ho⟩ := own_list hown
        have G := hidd (And.intro (show Rel63 (ccells (N : Int) k bs).toArray w w2 from ⟨R.out.1.below hb2 R.out.1.lt, R.out.2.trans (hb2.mono R.out.2.size)⟩) ho.sl)
        clear hown ho hb2
        go_wp2_with fail
        go_loopw [10, 34] (fun v e wr => ∃ m : Nat, m ≤ zs.length ∧ e = .int .i64 m ∧ RelCm f zs w2 m v wr) (fun _ e _ => zs.length - (intOf e).toNat)
        case atStart => exact ⟨0, by omega, rfl, ⟨rfl, .inl ⟨rfl, rfl⟩⟩, Below.refl _ _⟩
        case round =>
          obtain ⟨m, hm, rfl, HR⟩ := hrel
          have HK := hidd HR
          clear HR
          have hsz2 := G.out.1.1.lt
          by_cases hlt : m < zs.length
          · rcases G.out.2.below HK.out.2 (Nat.le_refl _) with hz | ⟨b, off, ha, hc⟩
            · subst hz; simp at hlt
            · subst ha
              have hcm := hc m hlt
              obtain ⟨z0, z1⟩ := HIN.out m hlt
              obtain ⟨z, hz⟩ : ∃ z, z = zs.getD m 0 := ⟨_, rfl⟩
              rw [← hz] at hcm z0 z1
              have HZ := hidd hz
              clear hc hz
              by_cases hzj : z = j
              · have HN := hidd (sift_no (f := f) hlt (by rw [← HZ.out, HF.out]; simp [cmf, hzj]))
                have hqz : (z != j) = false := by simpa using hzj
                have K2 := hidd (HK.out.skip (Below.refl _ _) HN.out)
                clear hzj
                go_wp2_with fail
                go_roundw
                case rel => exact ⟨m + 1, by omega, by go_num, K2.out⟩
                case measure => simp [intOf]; omega
              · have hqz : (z != j) = true := by rw [bne_iff_ne]; exact hzj
                have HNE := hidd hzj
                have bC := hidd (G.out.1.1.below HK.out.2 hsz2)
                by_cases hcc : colAt bs z j = c
                · have HN := hidd (sift_yes (f := f) hlt (by rw [← HZ.out, HF.out]; simp [cmf, hzj, hcc]))
                  have HCL := hidd (show (colAt bs z j == c) = true by simpa using hcc)
                  clear hzj hcc
                  go_wp2_with (first
                    | (refine wpList_load_if rfl 29 (.tmp 4) rfl w.heap.size rfl 29 _ _ bC.out Try.underlying29 rfl HS.out ?_))
                  refine (at59 (N : Int) k bs hb N z j _ n2 z0 z1 j0 j1 HNE.out).mono ?_
                  rintro e w3 ⟨rfl, hb3⟩
                  have hown := own_below HK.out.1 hb3 (Nat.le_refl _)
                  have K2 := hidd (HK.out.2.trans (hb3.mono HK.out.2.size))
                  have hccl := HCL.out
                  have hlen := sift_len f zs m
                  have hszz := K2.out.size
                  clear hb3 hcm
                  go_wp2_with (at_builtin; refine wpList_append_own _ rfl _ _ 38 rfl w2.heap.size 2 t0 (.int .i64 0) 1 8 Try.underlying38 HIF.out.1 HIF.out.2.1 HIF.out.2.2.1 HIF.out.2.2.2 rfl (by decide) _ _ _ rfl (hown.alloc _) ⟨w3.heap.size, 0, none⟩ 1 1 [.int .i64 z] rfl rfl ?c1 ?c2 ?c3 ?c4 ?c5 ?_)
                  case c1 => exact one_new _ _ _
                  case c2 => intro u hu; simp at hu; subst hu; rfl
                  case c3 => unfold maxLen; omega
                  case c4 => omega
                  case c5 => simp; omega
                  intro v' w4 hown' hgrow _
                  have K3 := hidd (show RelCm f zs w2 (m + 1) v' w4 from ⟨by rw [HN.out, ← HZ.out, icells_app, List.length_append]; exact hown', K2.out.trans (grown_step hown hgrow (by omega))⟩)
                  clear hown' hgrow hown
                  go_wp2
                  go_roundw
                  case rel => exact ⟨m + 1, by omega, by go_num, K3.out⟩
                  case measure => simp [intOf]; omega
                · have HN := hidd (sift_no (f := f) hlt (by rw [← HZ.out, HF.out]; simp [cmf, hcc]))
                  have HCL := hidd (show (colAt bs z j == c) = false by simpa using hcc)
                  clear hzj hcc
                  go_wp2_with (first
                    | (refine wpList_load_if rfl 29 (.tmp 4) rfl w.heap.size rfl 29 _ _ bC.out Try.underlying29 rfl HS.out ?_))
                  refine (at59 (N : Int) k bs hb N z j _ n2 z0 z1 j0 j1 HNE.out).mono ?_
                  rintro e w3 ⟨rfl, hb3⟩
                  have K2 := hidd (HK.out.skip hb3 HN.out)
                  have hccl := HCL.out
                  clear hb3 hcm
                  go_wp2_with fail
                  go_roundw
                  case rel => exact ⟨m + 1, by omega, by go_num, K2.out⟩
                  case measure => simp [intOf]; omega
          · have hme : m = zs.length := by omega
            subst hme
            have R2 := hidd (G.out.1.2.trans (HK.out.2.mono G.out.1.2.size))
            have hs3 := G.out.1.2.size
            go_wp2_with fail
            go_ret2
            exact lout_own rfl HK.out.1 hs3 R2.out
end Go.Proofs.Ytpjegmmichjlbaa
