/- Cliques in order: what is still to come from a state of the search, and the cliques of one size. Nothing of the program. -/
import Derived.Test.YtckffliiidgilaaDoorGa
namespace Go.Proofs.YtckffliiidgilaaDoor
set_option linter.unusedVariables false
set_option linter.unusedSimpArgs false
section
variable (fit : List Nat → Nat → Bool) (N : Nat)
/-- The cliques that go on from s (its points backwards) with points from N - d on, in order. -/
def cqE : Nat → List Nat → List (List Nat)
  | 0, _ => []
  | d + 1, s => if fit s (N - (d + 1)) = true then ((N - (d + 1)) :: s) :: (cqE d ((N - (d + 1)) :: s) ++ cqE d s) else cqE d s
/-- What is still to come. -/
def cqR : List Nat → Nat → List (List Nat)
  | [], d => cqE fit N d []
  | q :: s, d => cqE fit N d (q :: s) ++ cqR s (N - (q + 1))
theorem cqR_eq (s : List Nat) (d d' : Nat) : ∃ t, cqR fit N s d = cqE fit N d s ++ t ∧ cqR fit N s d' = cqE fit N d' s ++ t := by
  cases s with
  | nil => exact ⟨[], by simp [cqR], by simp [cqR]⟩
  | cons q s => exact ⟨_, rfl, rfl⟩
variable {fit N}
theorem cqR_fit {s : List Nat} {d : Nat} (hd : d + 1 ≤ N) (h : fit s (N - (d + 1)) = true) : cqR fit N s (d + 1) = ((N - (d + 1)) :: s) :: cqR fit N ((N - (d + 1)) :: s) d := by
  obtain ⟨t, h1, h2⟩ := cqR_eq fit N s (d + 1) d
  rw [h1, cqE, if_pos h, cqR, show N - (N - (d + 1) + 1) = d by omega, h2]
  simp
theorem cqR_skip {s : List Nat} {d : Nat} (h : fit s (N - (d + 1)) = false) : cqR fit N s (d + 1) = cqR fit N s d := by
  obtain ⟨t, h1, h2⟩ := cqR_eq fit N s (d + 1) d
  rw [h1, h2, cqE, if_neg (by rw [h]; simp)]
theorem cqR_up (q : Nat) (s : List Nat) : cqR fit N (q :: s) 0 = cqR fit N s (N - (q + 1)) := by simp [cqR, cqE]
theorem cqR_end : cqR fit N [] 0 = [] := rfl
theorem cqE_len : ∀ (d : Nat) (s c : List Nat), c ∈ cqE fit N d s → s.length < c.length
  | 0, s, c, h => by simp [cqE] at h
  | d + 1, s, c, h => by
    rw [cqE] at h
    split at h
    · rcases List.mem_cons.1 h with rfl | h
      · simp
      · rcases List.mem_append.1 h with h | h
        · have := cqE_len d _ c h; simp at this; omega
        · exact cqE_len d s c h
    · exact cqE_len d s c h
/-- The cliques of m points among s and those that go on from it. -/
def cqF (fit : List Nat → Nat → Bool) (N m d : Nat) (s : List Nat) : List (List Nat) := (s :: cqE fit N d s).filter fun c => decide (c.length = m)
theorem cqF_here {m d : Nat} {s : List Nat} (h : s.length = m) : cqF fit N m d s = [s] := by
  unfold cqF
  rw [List.filter_cons_of_pos (by simpa using h), List.filter_eq_nil_iff.2]
  intro c hc
  have := cqE_len d s c hc
  simp; omega
theorem cqF_less {m d : Nat} {s : List Nat} (h : s.length ≠ m) : cqF fit N m d s = (cqE fit N d s).filter fun c => decide (c.length = m) := by
  unfold cqF
  rw [List.filter_cons_of_neg (by simpa using h)]
theorem cqG_fit {m d : Nat} {s : List Nat} (h : fit s (N - (d + 1)) = true) : ((cqE fit N (d + 1) s).filter fun c => decide (c.length = m)) = cqF fit N m d ((N - (d + 1)) :: s) ++ (cqE fit N d s).filter fun c => decide (c.length = m) := by
  rw [cqE, if_pos h]
  unfold cqF
  rw [← List.filter_append, List.cons_append]
theorem cqG_skip {m d : Nat} {s : List Nat} (h : fit s (N - (d + 1)) = false) : ((cqE fit N (d + 1) s).filter fun c => decide (c.length = m)) = (cqE fit N d s).filter fun c => decide (c.length = m) := by
  rw [cqE, if_neg (by rw [h]; simp)]
/-- How many of the last d points fit. -/
def cqN (fit : List Nat → Nat → Bool) (N : Nat) : Nat → List Nat → Nat
  | 0, _ => 0
  | d + 1, s => cqN fit N d s + (if fit s (N - (d + 1)) = true then 1 else 0)
theorem cqN_mono (hf : ∀ s p q, fit (q :: s) p = true → fit s p = true) : ∀ (d q : Nat) (s : List Nat), cqN fit N d (q :: s) ≤ cqN fit N d s
  | 0, _, _ => Nat.le_refl _
  | d + 1, q, s => by
    have := cqN_mono hf d q s
    rw [cqN, cqN]
    by_cases h : fit (q :: s) (N - (d + 1)) = true
    · rw [if_pos h, if_pos (hf _ _ _ h)]; omega
    · rw [if_neg h]; omega
theorem cqE_most (hf : ∀ s p q, fit (q :: s) p = true → fit s p = true) : ∀ (d : Nat) (s c : List Nat), c ∈ cqE fit N d s → c.length ≤ s.length + cqN fit N d s
  | 0, s, c, h => by simp [cqE] at h
  | d + 1, s, c, h => by
    rw [cqE] at h
    rw [cqN]
    split at h
    · rename_i hfit
      rw [if_pos hfit]
      rcases List.mem_cons.1 h with rfl | h
      · simp
      · rcases List.mem_append.1 h with h | h
        · have h1 := cqE_most hf d _ c h
          have h2 := cqN_mono (N := N) hf d (N - (d + 1)) s
          simp at h1; omega
        · have := cqE_most hf d s c h; omega
    · have := cqE_most hf d s c h; omega
theorem cqG_none (hf : ∀ s p q, fit (q :: s) p = true → fit s p = true) {m d : Nat} {s : List Nat} (h : s.length + cqN fit N d s < m) : ((cqE fit N d s).filter fun c => decide (c.length = m)) = [] := by
  rw [List.filter_eq_nil_iff]
  intro c hc
  have := cqE_most hf d s c hc
  simp; omega
end
end Go.Proofs.YtckffliiidgilaaDoor
