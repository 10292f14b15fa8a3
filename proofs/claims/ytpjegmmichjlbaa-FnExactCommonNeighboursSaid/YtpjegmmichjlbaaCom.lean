/- CommonNeighbours: its model. -/
import Derived.Test.YtpjegmmichjlbaaTail2
import Derived.Test.YtpjegmmichjlbaaTakeIm
import Derived.Test.YtpjegmmichjlbaaPartSpec
namespace Go.Proofs.Ytpjegmmichjlbaa
set_option linter.unusedVariables false
set_option linter.unusedSimpArgs false
open Go Go.RowKit Go.Shelf
def cmB (bs : List Nat) (i j c : Int) (q : Nat) : Bool := nbB bs i c q && nbB bs j c q
def cmCode (n k : Int) (bs : List Nat) (i j c : Int) : Int := if isCol n k bs = true then (if (pairB i j n && belowB c k) = true then 0 else 2) else 1
def cmList (n k : Int) (bs : List Nat) (i j c : Int) : List Int := if cmCode n k bs i j c = 0 then nbK (cmB bs i j c) n.toNat else []
theorem cm_bad {n k : Int} {bs : List Nat} {i j c m : Int} (h : cmCode n k bs i j c = m) (hm : m ≠ 0) : cmList n k bs i j c = [] ∧ cmCode n k bs i j c = m := ⟨by unfold cmList; rw [h, if_neg hm], h⟩
theorem cm_good {n k : Int} {bs : List Nat} {i j c : Int} (h : cmCode n k bs i j c = 0) : cmList n k bs i j c = nbK (cmB bs i j c) n.toNat ∧ cmCode n k bs i j c = 0 := ⟨by unfold cmList; rw [h, if_pos rfl], h⟩
theorem cmCode_1 {n k : Int} {bs : List Nat} {i j c : Int} (h : isCol n k bs = false) : cmCode n k bs i j c = 1 := by simp [cmCode, h]
theorem cmCode_2 {n k : Int} {bs : List Nat} {i j c : Int} (h : isCol n k bs = true) (h2 : (pairB i j n && belowB c k) = false) : cmCode n k bs i j c = 2 := by unfold cmCode; rw [if_pos h, h2]; rfl
theorem cmCode_0 {n k : Int} {bs : List Nat} {i j c : Int} (h : isCol n k bs = true) (h2 : (pairB i j n && belowB c k) = true) : cmCode n k bs i j c = 0 := by unfold cmCode; rw [if_pos h, h2]; rfl
theorem cmList_len {n k : Int} {bs : List Nat} {i j c : Int} : (cmList n k bs i j c).length ≤ 17 := by
  unfold cmList
  split
  · rename_i h
    cases hi : isCol n k bs with
    | false => rw [cmCode_1 hi] at h; cases h
    | true =>
      have := isCol_bd hi
      have := nbK_len (cmB bs i j c) n.toNat
      omega
  · simp
theorem cm_bits (bs : List Nat) (i j c : Int) (N : Nat) (q : Nat) : (arK (nbB bs i c) N &&& arK (nbB bs j c) N).testBit q = (decide (q < N) && cmB bs i j c q) := by
  rw [Nat.testBit_and, arK_bit, arK_bit]
  unfold cmB
  cases decide (q < N) <;> simp
set_option maxRecDepth 100000 in
set_option maxHeartbeats 4000000 in
theorem spec27 (n k : Int) (bs : List Nat) (hb : Bys bs) (i j c : Int) (w : World) :
    Calls Try.prog 27 #[.agg (ccells n k bs).toArray, .int .i64 i, .int .i64 j, .int .i64 c] w (LOut w (cmList n k bs i j c) (cmCode n k bs i j c)) := by
  have HS := hidd (size_c26 n k hb)
  have hmk : ∀ w0, w0 = (w.alloc (.cells (ccells n k bs).toArray 29)).alloc (.cells #[.int .i64 i, .int .i64 j] 2) → ∀ w1, Below w0.heap.size w0 w1 → Rel63 (ccells n k bs).toArray w w1 := by
    rintro w0 rfl w1 hb1
    have hb := ((Below.refl w.heap.size w).alloc (Nat.le_refl _) (.cells (ccells n k bs).toArray 29)).alloc (by simp) (.cells #[.int .i64 i, .int .i64 j] 2)
    have hbl := hb.trans (hb1.mono (by simp; omega))
    exact ⟨((Blk.new _ _ _ _ rfl).alloc _).below hb1 (by simp; omega), hbl⟩
  have HMK := hidd hmk
  clear hmk
  by_cases hg : given n k bs c [i, j] = 0
  · obtain ⟨hi, hcb, hij⟩ : isCol n k bs = true ∧ belowB c k = true ∧ allB [i, j] n = true := by
      cases hi : isCol n k bs with
      | false => rw [given_1 hi] at hg; cases hg
      | true =>
        cases hp : belowB c k with
        | false => rw [given_2 hi (by rw [hp]; rfl)] at hg; cases hg
        | true =>
          cases hq : allB [i, j] n with
          | false => rw [given_2 hi (by rw [hq, Bool.and_false])] at hg; cases hg
          | true => exact ⟨rfl, rfl, rfl⟩
    obtain ⟨n1, n2, k1, k2⟩ := isCol_bd hi
    rw [all2, Bool.and_eq_true] at hij
    have HG := hidd hg
    by_cases he : i = j
    · subst he
      obtain ⟨v1, v2⟩ := cm_bad (cmCode_2 (i := i) (j := i) (c := c) hi (by rw [pairB_no3]; rfl)) (by omega)
      rw [v1, v2]
      have hq : (i == i) = true := by simp
      clear hi hcb hij hg v1 v2
      go_enter Try.func27, Try.ntmps27
      go_wp2_with (refine wpList_load_row rfl 29 (.tmp 4) rfl w.heap.size rfl 29 _ (0,0) _ (Blk.new _ _ _ _ rfl) Try.underlying29 rfl HS.out ?_)
      refine (given56 n k bs hb c [i, i] (some ⟨w.heap.size + 1, 0, none⟩) 2 _ (sl2 _ i i _ _ (by simp)) (by simp)).mono ?_
      rintro e w1 ⟨rfl, hb1⟩
      rw [HG.out]
      have R := hidd (HMK.out _ rfl _ hb1)
      clear hb1
      go_wp2
      go_ret2
      exact lout_nil rfl R.out.2
    · obtain ⟨v1, v2⟩ := cm_good (cmCode_0 (i := i) (j := j) (c := c) hi (by rw [hcb, pairB_yes hij.1 hij.2 he]; rfl))
      rw [v1, v2]
      obtain ⟨i0, i1⟩ := inB_bd hij.1
      obtain ⟨j0, j1⟩ := inB_bd hij.2
      have hq : (i == j) = false := by rw [beq_eq_false_iff_ne]; exact he
      obtain ⟨N, rfl⟩ := Int.eq_ofNat_of_zero_le (show 0 ≤ n by omega)
      rw [Int.toNat_natCast]
      obtain ⟨A, hA⟩ : ∃ A, A = arK (nbB bs i c) N := ⟨_, rfl⟩
      obtain ⟨B, hB⟩ : ∃ B, B = arK (nbB bs j c) N := ⟨_, rfl⟩
      have hAl : A < 4611686018427387904 := Nat.lt_of_lt_of_le (by rw [hA]; exact arK_lt _ N) (Nat.le_trans (Nat.pow_le_pow_right (by omega) (show N ≤ 17 by omega)) (by omega))
      have hBl : B < 4611686018427387904 := Nat.lt_of_lt_of_le (by rw [hB]; exact arK_lt _ N) (Nat.le_trans (Nat.pow_le_pow_right (by omega) (show N ≤ 17 by omega)) (by omega))
      have hSl : A &&& B < 4611686018427387904 := Nat.lt_of_le_of_lt Nat.and_le_left hAl
      have HBT := hidd (show ∀ q, (A &&& B).testBit q = (decide (q < N) && cmB bs i j c q) from fun q => by rw [hA, hB]; exact cm_bits bs i j c N q)
      have HAND := hidd (i64_and_nat A B hAl hBl)
      have HAB := hidd (And.intro hA hB)
      have H62 := hidd (nb62 (cmB bs i j c) N (by omega))
      clear hi hcb hij hg v1 v2 he hA hB
      go_enter Try.func27, Try.ntmps27
      go_wp2_with (refine wpList_load_row rfl 29 (.tmp 4) rfl w.heap.size rfl 29 _ (0,0) _ (Blk.new _ _ _ _ rfl) Try.underlying29 rfl HS.out ?_)
      refine (given56 (N : Int) k bs hb c [i, j] (some ⟨w.heap.size + 1, 0, none⟩) 2 _ (sl2 _ i j _ _ (by simp)) (by simp)).mono ?_
      rintro e w1 ⟨rfl, hb1⟩
      rw [HG.out]
      have R := hidd (HMK.out _ rfl _ hb1)
      clear hb1
      go_wp2_with fail
      refine wp_region_tail_lit 9 (fun w' => Below w1.heap.size w1 w') (by decide) rfl ((Below.refl _ _).drew) (by kernel_rfl) (by kernel_rfl) (by kernel_rfl) (by kernel_rfl) ?_
      simp only [List.take_succ_cons, List.take_zero, List.drop_succ_cons, List.drop_zero, List.map_cons, List.map_nil, List.cons_append, List.nil_append, idle]
      refine qs rfl (fun KQ hKQ => ?_)
      apply Exists.intro
      refine ⟨fun w' hw' => ?_, ?_⟩
      · (exact quietRow 29 (.tmp 4) rfl w.heap.size rfl 29 _ _ (R.out.1.below hw' R.out.1.lt) Try.underlying29 rfl HS.out)
      go_simp
      refine hKQ _ ?_
      clear hKQ KQ
      refine qs rfl (fun KQ hKQ => ?_)
      apply Exists.intro
      refine ⟨fun w' hw' => ?_, ?_⟩
      · (go_simp; exact rfl)
      go_simp
      refine hKQ _ ?_
      clear hKQ KQ
      refine qs rfl (fun KQ hKQ => ?_)
      apply Exists.intro
      refine ⟨fun w' hw' => ?_, ?_⟩
      · (go_simp; exact rfl)
      go_simp
      refine hKQ _ ?_
      clear hKQ KQ
      refine qs rfl (fun KQ hKQ => ?_)
      apply Exists.intro
      refine ⟨fun w' hw' => ?_, ?_⟩
      · (go_simp; exact (around63 (N : Int) k bs hb i c _ n1 n2 (by omega) (by omega)).mono fun _ _ h => ⟨by rw [h.1, Int.toNat_natCast, ← HAB.out.1], hw'.trans (h.2.mono hw'.size)⟩)
      go_simp
      refine hKQ _ ?_
      clear hKQ KQ
      refine qs rfl (fun KQ hKQ => ?_)
      apply Exists.intro
      refine ⟨fun w' hw' => ?_, ?_⟩
      · (exact quietRow 29 (.tmp 4) rfl w.heap.size rfl 29 _ _ (R.out.1.below hw' R.out.1.lt) Try.underlying29 rfl HS.out)
      go_simp
      refine hKQ _ ?_
      clear hKQ KQ
      refine qs rfl (fun KQ hKQ => ?_)
      apply Exists.intro
      refine ⟨fun w' hw' => ?_, ?_⟩
      · (go_simp; exact rfl)
      go_simp
      refine hKQ _ ?_
      clear hKQ KQ
      refine qs rfl (fun KQ hKQ => ?_)
      apply Exists.intro
      refine ⟨fun w' hw' => ?_, ?_⟩
      · (go_simp; exact rfl)
      go_simp
      refine hKQ _ ?_
      clear hKQ KQ
      refine qs rfl (fun KQ hKQ => ?_)
      apply Exists.intro
      refine ⟨fun w' hw' => ?_, ?_⟩
      · (go_simp; exact (around63 (N : Int) k bs hb j c _ n1 n2 (by omega) (by omega)).mono fun _ _ h => ⟨by rw [h.1, Int.toNat_natCast, ← HAB.out.2], hw'.trans (h.2.mono hw'.size)⟩)
      go_simp
      refine hKQ _ ?_
      clear hKQ KQ
      refine qs rfl (fun KQ hKQ => ?_)
      apply Exists.intro
      refine ⟨fun w' hw' => ?_, ?_⟩
      · (go_simp; rw [HAND.out])
      go_simp
      refine hKQ _ ?_
      clear hKQ KQ
      refine qs rfl (fun KQ hKQ => ?_)
      apply Exists.intro
      refine ⟨fun w' hw' => ?_, ?_⟩
      · (go_simp; exact rfl)
      go_simp
      refine hKQ _ ?_
      clear hKQ KQ
      refine qs rfl (fun KQ hKQ => ?_)
      apply Exists.intro
      refine ⟨fun w' hw' => ?_, ?_⟩
      · (go_simp; exact rfl)
      go_simp
      refine hKQ _ ?_
      clear hKQ KQ
      refine qs rfl (fun KQ hKQ => ?_)
      apply Exists.intro
      refine ⟨fun w' hw' => ?_, ?_⟩
      · (go_simp; exact rfl)
      go_simp
      refine hKQ _ ?_
      clear hKQ KQ
      refine wpQuiet_nil ?_
      intro w' hw'
      go_wp2_with fail
      refine (points62 (fun q => decide (q < N) && cmB bs i j c q) (A &&& B) _ hSl HBT.out).mono ?_
      rintro e w2 ⟨v, rfl, hown, hb2⟩
      rw [H62.out] at hown
      have hsz := R.out.2.size
      have hw1 := hw'.size
      have R2 := hidd (R.out.2.trans ((hw'.trans (hb2.mono hw'.size)).mono R.out.2.size))
      go_wp2
      go_ret2
      exact lout_own rfl hown (by omega) R2.out
  · obtain ⟨m, hm, hm0, hg2⟩ : ∃ m, cmCode n k bs i j c = m ∧ m ≠ 0 ∧ given n k bs c [i, j] = m := by
      cases hi : isCol n k bs with
      | false => exact ⟨1, cmCode_1 hi, by omega, given_1 hi⟩
      | true =>
        cases hp : belowB c k with
        | false => exact ⟨2, cmCode_2 hi (by rw [hp, Bool.and_false]), by omega, given_2 hi (by rw [hp]; rfl)⟩
        | true =>
          cases hq : allB [i, j] n with
          | false =>
            refine ⟨2, cmCode_2 hi ?_, by omega, given_2 hi (by rw [hq, Bool.and_false])⟩
            rw [all2] at hq
            unfold pairB
            rw [hq]; rfl
          | true => exact absurd (given_0 hi hp hq) hg
    obtain ⟨v1, v2⟩ := cm_bad hm hm0
    rw [v1, v2]
    have HG := hidd hg2
    have hq0 : (m == 0) = false := by rw [beq_eq_false_iff_ne]; exact hm0
    have hq1 : (m != 0) = true := by rw [bne_iff_ne]; exact hm0
    clear hm hm0 hg hg2 v1 v2
    go_enter Try.func27, Try.ntmps27
    go_wp2_with (refine wpList_load_row rfl 29 (.tmp 4) rfl w.heap.size rfl 29 _ (0,0) _ (Blk.new _ _ _ _ rfl) Try.underlying29 rfl HS.out ?_)
    refine (given56 n k bs hb c [i, j] (some ⟨w.heap.size + 1, 0, none⟩) 2 _ (sl2 _ i j _ _ (by simp)) (by simp)).mono ?_
    rintro e w1 ⟨rfl, hb1⟩
    rw [HG.out]
    have R := hidd (HMK.out _ rfl _ hb1)
    clear hb1
    go_wp2
    go_ret2
    exact lout_nil rfl R.out.2
end Go.Proofs.Ytpjegmmichjlbaa
