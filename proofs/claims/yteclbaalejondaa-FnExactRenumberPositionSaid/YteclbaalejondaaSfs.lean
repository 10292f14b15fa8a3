/- SafeMoves: the program and its model. -/
import Derived.Test.YteclbaalejondaaMtf
import Derived.Test.YteclbaalejondaaSpm
namespace Go.Proofs.Yteclbaalejondaa
set_option linter.unusedVariables false
set_option linter.unusedSimpArgs false
open Go Go.RowKit Go.Shelf
theorem len_zeroN (l : List Nat) : ((l.length : Int) == 0) = l.isEmpty := by
  cases l with
  | nil => rfl
  | cons x l => rw [List.isEmpty_cons, List.length_cons, beq_eq_false_iff_ne]; omega
/-- The numbers that pass a test, of those that pass one. -/
theorem nbK_filt (p q : Nat → Bool) : ∀ k, (nbK p k).filter (fun z => q z.toNat) = nbK (fun j => p j && q j) k
  | 0 => rfl
  | k + 1 => by
    have ih := nbK_filt p q k
    cases hp : p k with
    | false => rw [nbK_not hp, nbK_not (p := fun j => p j && q j) (by simp [hp]), ih]
    | true =>
      rw [nbK_put hp, List.filter_append, ih]
      cases hq : q k with
      | false => rw [nbK_not (p := fun j => p j && q j) (by simp [hq])]; simp [hq]
      | true => rw [nbK_put (p := fun j => p j && q j) (by simp [hp, hq])]; simp [hq]
theorem nbK_get (p : Nat → Bool) : ∀ k i, i < (nbK p k).length → ∃ x : Nat, (nbK p k).getD i 0 = (x : Int) ∧ x < k ∧ p x = true
  | 0, i, h => by simp [nbK] at h
  | k + 1, i, h => by
    cases hp : p k with
    | false =>
      rw [nbK_not hp] at h ⊢
      obtain ⟨x, h1, h2, h3⟩ := nbK_get p k i h
      exact ⟨x, h1, by omega, h3⟩
    | true =>
      rw [nbK_put hp] at h ⊢
      by_cases hi : i < (nbK p k).length
      · obtain ⟨x, h1, h2, h3⟩ := nbK_get p k i hi
        refine ⟨x, ?_, by omega, h3⟩
        rw [List.getD_eq_getElem?_getD, List.getElem?_append_left hi, ← List.getD_eq_getElem?_getD]; exact h1
      · have hie : i = (nbK p k).length := by simp at h; omega
        subst hie
        refine ⟨k, ?_, Nat.lt_succ_self k, hp⟩
        rw [List.getD_eq_getElem?_getD, List.getElem?_append_right (Nat.le_refl _)]; simp
theorem take_put (L : List Int) (Q : Int → Bool) {i : Nat} (h : i < L.length) : (L.take (i + 1)).filter Q = (L.take i).filter Q ++ (if Q (L.getD i 0) = true then [L.getD i 0] else []) := by
  rw [List.take_succ_eq_append_getElem h, List.filter_append]
  rw [show L[i] = L.getD i 0 by simp [List.getD, h]]
  congr 1
  generalize L.getD i 0 = z
  cases hq : Q z <;> simp [hq]
def sfsL (n : Int) (zs : List Int) : List Int := if gmCode n zs = 0 then mvL n.toNat zs (fsB n.toNat zs) else []
theorem sfs_0 {n : Int} {zs : List Int} (h : gmCode n zs = 0) : sfsL n zs = mvL n.toNat zs (fsB n.toNat zs) := if_pos h
theorem sfs_no {n : Int} {zs : List Int} (h : ¬ gmCode n zs = 0) : sfsL n zs = [] := if_neg h
theorem sfs_len {n : Int} {zs : List Int} : (sfsL n zs).length ≤ 1000 := by
  by_cases h : gmCode n zs = 0
  · obtain ⟨N, rfl, hP⟩ := pos_of h
    rw [sfs_0 h]
    have := mvL_len (N : Int).toNat zs (fsB (N : Int).toNat zs)
    have := hP.l10
    omega
  · rw [sfs_no h]; simp
theorem sfs_filter (N : Nat) (zs : List Int) : (mvL N zs (frB zs)).filter (fun z => sfB N zs z.toNat) = mvL N zs (fsB N zs) := by
  unfold mvL
  split
  · rfl
  · exact nbK_filt (frB zs) (sfB N zs) zs.length
theorem mvL_get {N : Nat} {zs : List Int} {p : Nat → Bool} {i : Nat} (h : i < (mvL N zs p).length) : ∃ x : Nat, (mvL N zs p).getD i 0 = (x : Int) ∧ x < zs.length ∧ p x = true := by
  unfold mvL at h ⊢
  split at h
  · simp at h
  · rename_i h2
    rw [if_neg h2]
    exact nbK_get p _ i h
set_option maxRecDepth 100000 in
set_option maxHeartbeats 2000000 in
theorem spec22v (n : Int) (zs : List Int) (a : Option Addr) (cap : Nat) (w : World) (hs : SlI w a zs) (hl : zs.length ≤ 9223372036854775807) :
    Calls Try.prog 22 #[.int .i64 n, .slice a zs.length cap] w (LOut w (sfsL n zs) (gmCode n zs)) := by
  have HC := hidd (code31 n zs a cap w hs hl)
  by_cases h : gmCode n zs = 0
  · obtain ⟨N, rfl, hP⟩ := pos_of h
    have HM := hidd (moves36 N zs hP a cap w hs)
    have HSL := hidd hs
    rw [sfs_0 h, h, Int.toNat_natCast, ← sfs_filter]
    rw [h] at HC
    have hl10 := hP.l10
    have hLl := mvL_len N zs (frB zs)
    have HG := hidd (fun i hi => mvL_get (N := N) (zs := zs) (p := frB zs) (i := i) hi)
    have HMV := hidd (fun e he a cap w hs => move40 zs e he hl10 a cap w hs)
    have HMR := hidd (fun w hs => mover32 zs a cap w hs hl10)
    have HCO := hidd (fun e g c w hs => (show Calls Try.prog 39 #[.int .i64 (N : Int), .slice (some ⟨g, 0, none⟩) zs.length c, .int .i64 (mvr zs)] w fun x w' => x = .returned (.tuple #[.int .i64 (cmL (2 ^ eN N - 1) (triK (mvr zs) (aft zs e) N) : Nat), .int .i64 ((triK (mvr zs) (aft zs e) N).length : Nat)]) ∧ w = w' by
      have := common39 N (mvr zs) (aft zs e) (some ⟨g, 0, none⟩) c w hs hP.n1 hP.n5 (by rw [aft_len]; exact hP.len)
      rw [aft_len] at this; exact this))
    have HQ := hidd (fun e : Nat => (show sfB N zs e = (((triK (mvr zs) (aft zs e) N).length : Int) == 0) by rw [len_zeroN]; rfl))
    generalize mvL N zs (frB zs) = L at *
    generalize mvr zs = m at *
    obtain ⟨t0, hi2, hz0, hz1, hz3⟩ := info_parts info2
    have HIF := hidd (And.intro hi2 (And.intro hz0 (And.intro hz1 hz3)))
    clear h hP hs hi2 hz0 hz1 hz3
    go_enter Try.func22, Try.ntmps22
    go_wp2_with fail
    refine HC.out.mono ?_
    rintro e w' ⟨rfl, rfl⟩
    go_wp2_with fail
    refine HM.out.mono ?_
    rintro e w2 ⟨a2, c2, rfl, ho, hb2⟩
    have HS2 := hidd (HSL.out.below hb2 (Nat.le_refl _))
    have HL2 := hidd ho.sl
    have HB2 := hidd hb2
    have HE := hidd (empty_own w2)
    clear ho hb2
    go_wp2_with fail
    go_loopw [8, 9, 10, 11] (fun v i x y wr => ∃ j : Nat, j ≤ L.length ∧ i = .int .i64 j ∧ Hid (RelLa L a2 w2 ((L.take j).filter (fun z => sfB N zs z.toNat)) v wr)) (fun _ i _ _ _ => L.length - (intOf i).toNat)
    case atStart =>
      have hb := (Below.refl w2.heap.size w2).alloc (Nat.le_refl _) (.cells #[] 2)
      exact ⟨0, by omega, rfl, HE.out, HL2.out.below hb (Nat.le_refl _), hb⟩
    case round =>
      obtain ⟨j, hj, rfl, HK⟩ := hrel
      by_cases hlt : j < L.length
      · obtain ⟨e, hge, hez, hfr⟩ := HG.out j hlt
        rcases HK.out.2.1 with hz | ⟨b, off, rfl, hcc⟩
        · subst hz; simp at hlt
        · have hcj := hcc j hlt
          rw [hge] at hcj
          have HTP := hidd (take_put L (fun z => sfB N zs z.toNat) hlt)
          rw [hge] at HTP
          have hlx : ((L.take j).filter (fun z => sfB N zs z.toNat)).length ≤ 10 := Nat.le_trans (List.length_filter_le _ _) (by rw [List.length_take]; omega)
          obtain ⟨xs, hxs⟩ : ∃ xs, xs = (L.take j).filter (fun z => sfB N zs z.toNat) := ⟨_, rfl⟩
          rw [← hxs] at HK HTP hlx
          have HSr := hidd (HS2.out.below HK.out.2.2 (Nat.le_refl _))
          have hsz := HK.out.2.2.size
          have HQe := hidd (HQ.out e)
          have HCOe := hidd (HCO.out e)
          have HMVe := hidd (HMV.out e hez)
          generalize cmL (2 ^ eN N - 1) (triK m (aft zs e) N) = C at *
          generalize (triK m (aft zs e) N).length = T at *
          clear hcc hxs
          go_wp2_with fail
          refine (HMVe.out _ _ wr HSr.out).mono ?_
          rintro x w3 ⟨g, c3, rfl, ho, hb3⟩
          have HSl3 := hidd ho.sl
          have HM3 := hidd (HMR.out w3 (HSr.out.below hb3 (Nat.le_refl _)))
          have HK3 := hidd (show RelLa L (some ⟨b, off, none⟩) w2 xs u8 w3 from ⟨own_below HK.out.1 hb3 (Nat.le_refl _), HK.out.2.1.below hb3 (Nat.le_refl _), HK.out.2.2.trans (hb3.mono HK.out.2.2.size)⟩)
          clear ho hb3
          go_wp2_with fail
          refine HM3.out.mono ?_
          rintro x w' ⟨rfl, rfl⟩
          go_wp2_with fail
          refine (HCOe.out _ _ _ HSl3.out).mono ?_
          rintro x w' ⟨rfl, rfl⟩
          have hcj3 : w3.cell? ⟨b, off + j, none⟩ = some (.int .i64 (e : Int)) := by
            rcases HK3.out.2.1 with hz | ⟨b', off', ha, hcc⟩
            · subst hz; simp at hlt
            · cases ha
              have := hcc j hlt
              rwa [hge] at this
          have hsz3 := HK3.out.2.2.size
          clear hcj HK
          have HQ1 := HQe.out
          cases hq : sfB N zs e with
          | true =>
            rw [hq] at HQ1
            have hT := HQ1.symm
            have HS1 := hidd (show (L.take (j + 1)).filter (fun z => sfB N zs z.toNat) = xs ++ [(e : Int)] by
              rw [HTP.out, if_pos (show sfB N zs (e : Int).toNat = true by rw [Int.toNat_natCast]; exact hq)])
            have hown := HK3.out.1
            clear HQ1
            go_wp2_with (at_builtin; refine wpList_append_own _ rfl _ _ 22 rfl w2.heap.size 2 t0 (.int .i64 0) 1 8 Try.underlying22 HIF.out.1 HIF.out.2.1 HIF.out.2.2.1 HIF.out.2.2.2 rfl (by decide) _ _ _ rfl (hown.alloc _) ⟨w3.heap.size, 0, none⟩ 1 1 [.int .i64 (e : Int)] rfl rfl ?c1 ?c2 ?c3 ?c4 ?c5 ?_)
            case c1 => exact one_new _ _ _
            case c2 => intro u hu; simp at hu; subst hu; rfl
            case c3 => unfold maxLen; omega
            case c4 => omega
            case c5 => simp; omega
            intro v' w4 hown' hgrow _

            have K3 := hidd (HK3.out.step HL2.out hown' hgrow)
            rw [← HS1.out] at K3
            clear hown' hgrow hown
            go_wp2
            go_roundw
            case rel => exact ⟨j + 1, by omega, by go_num, K3⟩
            case measure => simp [intOf]; omega
          | false =>
            rw [hq] at HQ1
            have hT := HQ1.symm
            have HS1 := hidd (show (L.take (j + 1)).filter (fun z => sfB N zs z.toNat) = xs by
              rw [HTP.out, if_neg (show ¬ sfB N zs (e : Int).toNat = true by rw [Int.toNat_natCast, hq]; decide), List.append_nil])
            clear HQ1
            go_wp2_with fail
            go_roundw
            case rel => exact ⟨j + 1, by omega, by go_num, by rw [HS1.out]; exact HK3⟩
            case measure => simp [intOf]; omega
      · have hje : j = L.length := by omega
        subst hje
        go_wp2_with fail
        go_ret2
        obtain ⟨a', cap', rfl, ho⟩ := own_list (own_base HK.out.1 HB2.out.size)
        refine ⟨a', cap', ?_, ?_, HB2.out.trans (HK.out.2.2.mono HB2.out.size)⟩
        · rw [List.take_length]; rfl
        · rw [List.take_length] at ho; exact ho
  · rw [sfs_no h]
    generalize gmCode n zs = c at *
    have hne : (c != 0) = true := by rw [bne_iff_ne]; exact h
    clear h hs
    go_enter Try.func22, Try.ntmps22
    go_wp2_with fail
    refine HC.out.mono ?_
    rintro e w' ⟨rfl, rfl⟩
    go_wp2_with fail
    go_ret2
    exact lout_nil rfl (Below.refl _ _)
end Go.Proofs.Yteclbaalejondaa
