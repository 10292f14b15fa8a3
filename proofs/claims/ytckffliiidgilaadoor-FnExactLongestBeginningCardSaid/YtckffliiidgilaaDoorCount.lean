/- l02Count: cliques counted by recursion. -/
import Derived.Test.YtckffliiidgilaaDoorCnt
import Derived.Test.YtckffliiidgilaaDoorDig
namespace Go.Proofs.YtckffliiidgilaaDoor
set_option linter.unusedVariables false
set_option linter.unusedSimpArgs false
open Go Go.RowKit Go.Shelf
/-- The digits from p on. -/
def hiB (F p : Nat) : Nat := F >>> p <<< p
theorem hiB_bit (F p q : Nat) : (hiB F p).testBit q = (decide (p ≤ q) && F.testBit q) := by
  unfold hiB
  rw [Nat.testBit_shiftLeft, Nat.testBit_shiftRight]
  by_cases h : p ≤ q
  · simp [h, show p + (q - p) = q by omega]
  · simp [h]
theorem hiB_le (F p : Nat) : hiB F p ≤ F := by
  unfold hiB
  rw [Nat.shiftRight_eq_div_pow, Nat.shiftLeft_eq]
  exact Nat.div_mul_le_self _ _
theorem hiB_zero (F : Nat) : hiB F 0 = F := by simp [hiB]
theorem hiB_skip {F p : Nat} (h : F.testBit p = false) : hiB F (p + 1) = hiB F p := by
  apply Nat.eq_of_testBit_eq
  intro q
  rw [hiB_bit, hiB_bit]
  by_cases e : p = q
  · subst e; rw [h]; simp
  · by_cases h1 : p ≤ q
    · simp [h1, show p + 1 ≤ q by omega]
    · simp [h1, show ¬ p + 1 ≤ q by omega]
theorem hiB_take {F p : Nat} (h : F.testBit p = true) : hiB F p ^^^ 2 ^ p = hiB F (p + 1) := by
  apply Nat.eq_of_testBit_eq
  intro q
  rw [Nat.testBit_xor, hiB_bit, hiB_bit, Nat.testBit_two_pow]
  by_cases e : p = q
  · subst e; rw [h]; simp
  · by_cases h1 : p ≤ q
    · simp [h1, show p + 1 ≤ q by omega, e]
    · simp [h1, show ¬ p + 1 ≤ q by omega, e]
/-- The number of the sets of m points more, among free ones. -/
def cC (R : Nat → Nat) (N : Nat) : Nat → Nat → Nat
  | 0, _ => 1
  | m + 1, F => sm (fun p => if F.testBit p = true then cC R N m (hiB F (p + 1) &&& R p) else 0) N
def cT (R : Nat → Nat) (N m F : Nat) (p : Nat) : Nat := if F.testBit p = true then cC R N m (hiB F (p + 1) &&& R p) else 0
theorem cC_succ (R : Nat → Nat) (N m F : Nat) : cC R N (m + 1) F = sm (cT R N m F) N := rfl
theorem arK_self {F : Nat} : ∀ {k : Nat}, F < 2 ^ k → arK F.testBit k = F := by
  intro k h
  apply Nat.eq_of_testBit_eq
  intro q
  rw [arK_bit]
  by_cases hq : q < k
  · simp [hq]
  · simp [hq, Nat.testBit_lt_two_pow (Nat.lt_of_lt_of_le h (Nat.pow_le_pow_right (by omega) (show k ≤ q by omega)))]
theorem ones_cnt {F k : Nat} (h : F < 2 ^ k) : ones F = cnt F.testBit k := by rw [← ones_arK, arK_self h]
theorem cnt_mono {p q : Nat → Bool} : ∀ k, (∀ j, j < k → p j = true → q j = true) → cnt p k ≤ cnt q k
  | 0, _ => Nat.le_refl _
  | k + 1, h => by
    have ih := cnt_mono k (fun j hj => h j (by omega))
    have := h k (by omega)
    unfold cnt
    cases hp : p k with
    | false => simp; omega
    | true => rw [this hp]; simp; omega
theorem cnt_less {p q : Nat → Bool} {i : Nat} (hq : q i = true) (hp : p i = false) : ∀ k, i < k → (∀ j, j < k → p j = true → q j = true) → cnt p k + 1 ≤ cnt q k
  | 0, h, _ => by omega
  | k + 1, h, hpq => by
    unfold cnt
    by_cases e : i = k
    · subst e
      have := cnt_mono i (fun j hj => hpq j (by omega))
      rw [hq, hp]; simp; omega
    · have ih := cnt_less hq hp k (by omega) (fun j hj => hpq j (by omega))
      have := hpq k (by omega)
      cases hpk : p k with
      | false => simp; omega
      | true => rw [this hpk]; simp; omega
theorem ones_next {R : Nat → Nat} {F j p : Nat} (hF : F < 2 ^ 17) (hj : j ≤ p) (hp : F.testBit p = true) (h17 : p < 17) : ones (hiB F (p + 1) &&& R p) + 1 ≤ ones (hiB F j) := by
  have h1 : hiB F (p + 1) &&& R p < 2 ^ 17 := Nat.lt_of_le_of_lt (Nat.le_trans Nat.and_le_left (hiB_le _ _)) hF
  have h2 : hiB F j < 2 ^ 17 := Nat.lt_of_le_of_lt (hiB_le _ _) hF
  rw [ones_cnt h1, ones_cnt h2]
  refine cnt_less (i := p) ?_ ?_ 17 h17 ?_
  · rw [hiB_bit, hp]; simp [hj]
  · rw [Nat.testBit_and, hiB_bit, decide_eq_false (by omega), Bool.false_and, Bool.false_and]
  · intro q _ hq
    rw [Nat.testBit_and, hiB_bit, Bool.and_eq_true, Bool.and_eq_true] at hq
    have := of_decide_eq_true hq.1.1
    rw [hiB_bit, hq.1.2]; simp; omega
theorem and_lt17 {F p x : Nat} (hF : F < 2 ^ 17) : hiB F p &&& x < 2 ^ 17 := Nat.lt_of_le_of_lt (Nat.le_trans Nat.and_le_left (hiB_le _ _)) hF
theorem sm_zero' {f : Nat → Nat} : ∀ m, (∀ j, j < m → f j = 0) → sm f m = 0
  | 0, _ => rfl
  | m + 1, h => by rw [sm, sm_zero' m (fun j hj => h j (by omega)), h m (by omega)]
theorem cC_none {R : Nat → Nat} {N : Nat} (hN : N ≤ 17) : ∀ (m F : Nat), F < 2 ^ 17 → ones F < m → cC R N m F = 0
  | 0, F, _, h => by omega
  | m + 1, F, hF, h => by
    rw [cC_succ]
    refine sm_zero' N fun p hp => ?_
    unfold cT
    split
    · rename_i hb
      have := ones_next (R := R) (j := 0) hF (by omega) hb (by omega)
      rw [hiB_zero] at this
      exact cC_none hN m _ (and_lt17 hF) (by omega)
    · rfl
/-- The rest of the sum is nothing where too few are left. -/
theorem sm_rest {f : Nat → Nat} {j : Nat} : ∀ N, j ≤ N → (∀ p, j ≤ p → p < N → f p = 0) → sm f N = sm f j
  | 0, h, _ => by rw [show j = 0 by omega]
  | N + 1, h, h0 => by
    by_cases e : j = N + 1
    · rw [e]
    · rw [sm, h0 N (by omega) (by omega), Nat.add_zero]
      exact sm_rest N (by omega) (fun p h1 h2 => h0 p h1 (by omega))
theorem cC_stop {R : Nat → Nat} {N m F j : Nat} (hN : N ≤ 17) (hF : F < 2 ^ 17) (hj : j ≤ N) (h : ones (hiB F j) < m + 1) : cC R N (m + 1) F = sm (cT R N m F) j := by
  rw [cC_succ]
  refine sm_rest N hj fun p h1 h2 => ?_
  unfold cT
  split
  · rename_i hb
    have := ones_next (R := R) hF h1 hb (by omega)
    exact cC_none hN m _ (and_lt17 hF) (by omega)
  · rfl
theorem cC_le {R : Nat → Nat} {N : Nat} (hN : N ≤ 17) : ∀ (m F : Nat), cC R N m F ≤ 17 ^ m
  | 0, _ => Nat.le_refl _
  | m + 1, F => by
    rw [cC_succ, Nat.pow_succ, Nat.mul_comm]
    refine Nat.le_trans (sm_le N (fun p _ => ?_)) (Nat.mul_le_mul_right _ hN)
    unfold cT
    split
    · exact cC_le hN m _
    · exact Nat.zero_le _
theorem sm_part {R : Nat → Nat} {N m F j : Nat} (hN : N ≤ 17) (hj : j ≤ 17) : sm (cT R N m F) j ≤ 17 * 17 ^ m := by
  refine Nat.le_trans (sm_le j (fun p _ => ?_)) (Nat.mul_le_mul_right _ hj)
  unfold cT
  split
  · exact cC_le hN m _
  · exact Nat.zero_le _
theorem cT_take {R : Nat → Nat} {N m F p : Nat} (h : F.testBit p = true) : sm (cT R N m F) (p + 1) = sm (cT R N m F) p + cC R N m (hiB F (p + 1) &&& R p) := by rw [sm, cT, if_pos h]
theorem cT_skip {R : Nat → Nat} {N m F p : Nat} (h : F.testBit p = false) : sm (cT R N m F) (p + 1) = sm (cT R N m F) p := by rw [sm, cT, if_neg (by rw [h]; simp)]; rfl
theorem pow17 {m : Nat} (h : m ≤ 14) : 17 * 17 ^ m + 17 ^ m ≤ 4611686018427387904 := by
  have : 17 ^ m ≤ 17 ^ 14 := Nat.pow_le_pow_right (by omega) h
  have e : 17 ^ 14 = 168377826559400929 := by decide
  omega
end Go.Proofs.YtckffliiidgilaaDoor
