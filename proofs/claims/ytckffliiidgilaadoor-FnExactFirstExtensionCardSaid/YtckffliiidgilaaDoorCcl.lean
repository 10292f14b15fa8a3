/- How many cliques there are: the number that the count tells is the length of the list. Nothing of the program. -/
import Derived.Test.YtckffliiidgilaaDoorBac
namespace Go.Proofs.YtckffliiidgilaaDoor
set_option linter.unusedVariables false
set_option linter.unusedSimpArgs false
theorem sm_one {f g : Nat → Nat} {j : Nat} : ∀ N, j < N → (∀ p, p < N → p ≠ j → f p = g p) → g j = 0 → sm f N = f j + sm g N
  | 0, h, _, _ => by omega
  | N + 1, h, he, h0 => by
    by_cases e : j = N
    · subst e
      rw [sm, sm, h0, sm_congr j (fun p hp => he p (by omega) (by omega))]; omega
    · rw [sm, sm, sm_one N (by omega) (fun p hp hne => he p (by omega) hne) h0, he N (by omega) (fun x => e x.symm)]; omega
theorem frB_nobit {R : Nat → Nat} {N : Nat} {s : List Nat} {d p : Nat} (h : p < N - d ∨ fitR R s p = false ∨ N ≤ p) : (frB R N s d).testBit p = false := by
  by_cases hp : p < N
  · rw [frB_bit hp]
    rcases h with h | h | h
    · rw [decide_eq_false (by omega)]; rfl
    · rw [h]; simp
    · omega
  · exact arK_high (by omega)
theorem hiB_ext {F G p : Nat} (h : ∀ q, p ≤ q → F.testBit q = G.testBit q) : hiB F p = hiB G p := by
  apply Nat.eq_of_testBit_eq
  intro q
  rw [hiB_bit, hiB_bit]
  by_cases hq : p ≤ q
  · rw [h q hq]
  · rw [decide_eq_false hq]; rfl
theorem cT_nobit {R : Nat → Nat} {N m F p : Nat} (h : F.testBit p = false) : cT R N m F p = 0 := by unfold cT; rw [if_neg (by rw [h]; simp)]
theorem cqL_cnt {R : Nat → Nat} (h0 : ∀ q, (R q).testBit q = false) {N m : Nat} {M : Nat} {s : List Nat} (hM : M = s.length + (m + 1))
    (IH : ∀ (j d : Nat), d ≤ N → (cqH R N M d (j :: s)).length = cC R N m (frB R N (j :: s) d)) : ∀ d, d ≤ N → (cqL R N M d s).length = sm (cT R N m (frB R N s d)) N
  | 0, _ => by
    rw [cqL_zero, sm_zero' N]
    · rfl
    · intro p hp
      exact cT_nobit (frB_nobit (by omega))
  | d + 1, hd => by
    have e1 := cqL_cnt h0 hM IH d (by omega)
    obtain ⟨j, hj⟩ : ∃ j, j = N - (d + 1) := ⟨_, rfl⟩
    have hjN : j < N := by omega
    have hdj : N - (j + 1) = d := by omega
    have hbit : ∀ p, p < N → p ≠ j → (frB R N s (d + 1)).testBit p = (frB R N s d).testBit p := fun p hp hne => by
      rw [frB_bit hp, frB_bit hp]
      congr 1
      by_cases h : N - (d + 1) ≤ p
      · rw [decide_eq_true h, decide_eq_true (by omega)]
      · rw [decide_eq_false h, decide_eq_false (by omega)]
    have hz : cT R N m (frB R N s d) j = 0 := cT_nobit (frB_nobit (by omega))
    have hne : ∀ p, p < N → p ≠ j → cT R N m (frB R N s (d + 1)) p = cT R N m (frB R N s d) p := fun p hp hpj => by
      unfold cT
      rw [hbit p hp hpj]
      by_cases hlt : p < j
      · rw [if_neg, if_neg]
        · rw [frB_nobit (by omega)]; simp
        · rw [frB_nobit (by omega)]; simp
      · rw [hiB_ext (F := frB R N s (d + 1)) (G := frB R N s d) (p := p + 1)]
        intro q hq
        by_cases hqN : q < N
        · exact hbit q hqN (by omega)
        · rw [frB_nobit (by omega), frB_nobit (by omega)]
    rw [sm_one N hjN hne hz]
    cases hf : fitR R s j with
    | true =>
      have hb : (frB R N s (d + 1)).testBit j = true := by
        rw [frB_bit hjN, hf, decide_eq_true (by omega)]; rfl
      have hc : cT R N m (frB R N s (d + 1)) j = cC R N m (frB R N (j :: s) d) := by
        unfold cT
        rw [if_pos hb]
        congr 1
        have := frB_next h0 (d := d + 1) (s := s) hjN (by omega)
        rw [hdj] at this
        rw [← this]
        apply Nat.eq_of_testBit_eq
        intro q
        rw [Nat.testBit_and, hiB_bit, hiB_bit, Nat.testBit_and]
        by_cases e : q = j
        · subst e; rw [h0 q]; simp
        · by_cases hq : j ≤ q
          · rw [decide_eq_true hq, decide_eq_true (show j + 1 ≤ q by omega)]; simp
          · rw [decide_eq_false hq, decide_eq_false (show ¬ j + 1 ≤ q by omega)]; simp
      rw [cqL_fit (by rw [← hj]; exact hf), List.length_append, ← hj, IH j d (by omega), e1, hc]
    | false =>
      have hb : cT R N m (frB R N s (d + 1)) j = 0 := cT_nobit (frB_nobit (.inr (.inl hf)))
      rw [cqL_skip (by rw [← hj]; exact hf), e1, hb]; omega
theorem cqH_cnt {R : Nat → Nat} (h0 : ∀ q, (R q).testBit q = false) {N : Nat} : ∀ (m : Nat) (s : List Nat) (d M : Nat), M = s.length + m → d ≤ N → (cqH R N M d s).length = cC R N m (frB R N s d)
  | 0, s, d, M, hM, _ => by rw [cqH_here (by omega)]; rfl
  | m + 1, s, d, M, hM, hd => by
    rw [cqH_less (by omega), cC_succ]
    exact cqL_cnt h0 hM (fun j d hd => cqH_cnt h0 m (j :: s) d M (by simp; omega) hd) d hd
theorem clqL_cnt (bs : List Nat) (c : Int) (N m : Nat) : (clqL bs c N m).length = cC (rwN bs c N) N m (2 ^ N - 1) := by
  unfold clqL
  rw [cqH_cnt (rwN_irr bs c N) m [] N m (by simp) (Nat.le_refl _), frB_full]
theorem clqL_none (bs : List Nat) (c : Int) (N m : Nat) : (clqL bs c N m).isEmpty = decide (cC (rwN bs c N) N m (2 ^ N - 1) = 0) := by
  rw [← clqL_cnt]
  cases clqL bs c N m <;> simp
/-- Is there a clique of m points in a set? -/
def hasK (R : Nat → Nat) (N m F : Nat) : Bool := decide (0 < cC R N m F)
theorem clqL_has (bs : List Nat) (c : Int) (N m : Nat) : (clqL bs c N m).isEmpty = !hasK (rwN bs c N) N m (2 ^ N - 1) := by
  rw [clqL_none]
  unfold hasK
  by_cases h : cC (rwN bs c N) N m (2 ^ N - 1) = 0
  · rw [decide_eq_true h, decide_eq_false (by omega)]; rfl
  · rw [decide_eq_false h, decide_eq_true (by omega)]; rfl
theorem hasK_0 (R : Nat → Nat) (N F : Nat) : hasK R N 0 F = true := rfl
theorem hasK_few {R : Nat → Nat} {N m F : Nat} (hN : N ≤ 17) (hF : F < 2 ^ 17) (h : ones F < m) : hasK R N m F = false := by
  unfold hasK; rw [cC_none hN m F hF h]; rfl
/-- The points below j do not begin one. -/
def hasT (R : Nat → Nat) (N m F j : Nat) : Bool := decide (0 < sm (cT R N m F) j)
theorem hasT_0 (R : Nat → Nat) (N m F : Nat) : hasT R N m F 0 = false := rfl
theorem hasT_N (R : Nat → Nat) (N m F : Nat) : hasT R N m F N = hasK R N (m + 1) F := rfl
theorem hasT_skip {R : Nat → Nat} {N m F j : Nat} (h : F.testBit j = false) (h0 : hasT R N m F j = false) : hasT R N m F (j + 1) = false := by
  unfold hasT at h0 ⊢
  rw [sm, cT_nobit h]; exact h0
theorem hasT_step {R : Nat → Nat} {N m F j : Nat} (h : F.testBit j = true) (h0 : hasT R N m F j = false) : hasT R N m F (j + 1) = hasK R N m (hiB F (j + 1) &&& R j) := by
  unfold hasT at h0 ⊢
  unfold hasK
  have h1 := of_decide_eq_false h0
  have h2 : cT R N m F j = cC R N m (hiB F (j + 1) &&& R j) := by unfold cT; rw [if_pos h]
  rw [sm, h2]
  by_cases h3 : 0 < cC R N m (hiB F (j + 1) &&& R j)
  · rw [decide_eq_true h3, decide_eq_true (by omega)]
  · rw [decide_eq_false h3, decide_eq_false (by omega)]
theorem sm_mono {f : Nat → Nat} {j : Nat} : ∀ N, j ≤ N → sm f j ≤ sm f N
  | 0, h => by rw [show j = 0 by omega]; exact Nat.le_refl _
  | N + 1, h => by
    by_cases e : j = N + 1
    · rw [e]; exact Nat.le_refl _
    · have := sm_mono (f := f) N (show j ≤ N by omega)
      rw [sm]; omega
theorem hasT_yes {R : Nat → Nat} {N m F j : Nat} (hj : j ≤ N) (h : hasT R N m F j = true) : hasK R N (m + 1) F = true := by
  rw [← hasT_N]
  unfold hasT at h ⊢
  have := of_decide_eq_true h
  have := sm_mono (f := cT R N m F) N hj
  exact decide_eq_true (by omega)
end Go.Proofs.YtckffliiidgilaaDoor
