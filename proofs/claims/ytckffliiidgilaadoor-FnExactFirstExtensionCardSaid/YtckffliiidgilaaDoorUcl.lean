/- Cliques as sets in no order. Nothing of the program. -/
import Derived.Test.YtckffliiidgilaaDoorCcl
namespace Go.Proofs.YtckffliiidgilaaDoor
set_option linter.unusedVariables false
set_option linter.unusedSimpArgs false
/-- A list of m different points of F below N, each two of them neighbours. -/
def Uc (R : Nat → Nat) (N m F : Nat) (l : List Nat) : Prop :=
  l.Nodup ∧ l.length = m ∧ (∀ p ∈ l, p < N ∧ F.testBit p = true) ∧ (∀ p ∈ l, ∀ q ∈ l, p ≠ q → (R p).testBit q = true)
theorem hasT_ex {R : Nat → Nat} {N m F : Nat} : ∀ j, hasT R N m F j = true → ∃ p, p < j ∧ F.testBit p = true ∧ hasK R N m (hiB F (p + 1) &&& R p) = true
  | 0, h => by simp [hasT_0] at h
  | j + 1, h => by
    cases h0 : hasT R N m F j with
    | true =>
      obtain ⟨p, h1, h2⟩ := hasT_ex j h0
      exact ⟨p, by omega, h2⟩
    | false =>
      cases hb : F.testBit j with
      | true => exact ⟨j, by omega, hb, by rw [← hasT_step hb h0]; exact h⟩
      | false => rw [hasT_skip hb h0] at h; cases h
theorem hasT_of {R : Nat → Nat} {N m F p : Nat} (hp : F.testBit p = true) (hk : hasK R N m (hiB F (p + 1) &&& R p) = true) : ∀ j, p < j → hasT R N m F j = true
  | 0, h => by omega
  | j + 1, h => by
    cases h0 : hasT R N m F j with
    | true =>
      unfold hasT at h0 ⊢
      have := of_decide_eq_true h0
      rw [sm]; exact decide_eq_true (by omega)
    | false =>
      by_cases e : p = j
      · subst e; rw [hasT_step hp h0]; exact hk
      · have := hasT_of hp hk j (by omega)
        rw [h0] at this; cases this
theorem hasK_ex {R : Nat → Nat} {N : Nat} (hsym : ∀ p q, p < N → q < N → (R p).testBit q = (R q).testBit p) : ∀ (m F : Nat), hasK R N m F = true → ∃ l, Uc R N m F l
  | 0, F, _ => ⟨[], List.nodup_nil, rfl, by simp, by simp⟩
  | m + 1, F, h => by
    rw [← hasT_N] at h
    obtain ⟨p, hp, hb, hk⟩ := hasT_ex N h
    obtain ⟨l, h1, h2, h3, h4⟩ := hasK_ex hsym m _ hk
    have hq : ∀ q ∈ l, q < N ∧ p < q ∧ F.testBit q = true ∧ (R p).testBit q = true := fun q hq => by
      have := h3 q hq
      rw [Nat.testBit_and, hiB_bit, Bool.and_eq_true, Bool.and_eq_true] at this
      exact ⟨this.1, of_decide_eq_true this.2.1.1, this.2.1.2, this.2.2⟩
    refine ⟨p :: l, ?_, by simp [h2], ?_, ?_⟩
    · rw [List.nodup_cons]
      exact ⟨fun hm => by have := (hq p hm).2.1; omega, h1⟩
    · intro q hm
      rcases List.mem_cons.1 hm with rfl | hm
      · exact ⟨hp, hb⟩
      · exact ⟨(hq q hm).1, (hq q hm).2.2.1⟩
    · intro a ha b hb' hne
      rcases List.mem_cons.1 ha with e | ha
      · rcases List.mem_cons.1 hb' with e' | hb'
        · exact absurd (e.trans e'.symm) hne
        · rw [e]; exact (hq b hb').2.2.2
      · rcases List.mem_cons.1 hb' with e' | hb'
        · rw [e', hsym a p (hq a ha).1 hp]; exact (hq a ha).2.2.2
        · exact h4 a ha b hb' hne
theorem least_mem : ∀ (l : List Nat), l ≠ [] → ∃ p ∈ l, ∀ q ∈ l, p ≤ q
  | [], h => absurd rfl h
  | [a], _ => ⟨a, by simp, by simp⟩
  | a :: b :: t, _ => by
    obtain ⟨p, h1, h2⟩ := least_mem (b :: t) (by simp)
    by_cases h : a ≤ p
    · exact ⟨a, by simp, fun q hq => by
        rcases List.mem_cons.1 hq with rfl | hq
        · exact Nat.le_refl _
        · exact Nat.le_trans h (h2 q hq)⟩
    · exact ⟨p, List.mem_cons_of_mem _ h1, fun q hq => by
        rcases List.mem_cons.1 hq with rfl | hq
        · omega
        · exact h2 q hq⟩
theorem hasK_of {R : Nat → Nat} {N : Nat} : ∀ (m F : Nat) (l : List Nat), Uc R N m F l → hasK R N m F = true
  | 0, F, _, _ => hasK_0 R N F
  | m + 1, F, l, ⟨h1, h2, h3, h4⟩ => by
    obtain ⟨p, hp, hmin⟩ := least_mem l (fun e => by rw [e] at h2; simp at h2)
    have hk := hasK_of m (hiB F (p + 1) &&& R p) (l.erase p) ⟨h1.erase p, by rw [List.length_erase_of_mem hp]; omega, fun q hq => by
      rw [h1.mem_erase_iff] at hq
      have := hmin q hq.2
      refine ⟨(h3 q hq.2).1, ?_⟩
      rw [Nat.testBit_and, hiB_bit, (h3 q hq.2).2, h4 p hp q hq.2 (fun e => hq.1 e.symm), decide_eq_true (show p + 1 ≤ q by omega)]
      rfl, fun a ha b hb hne => h4 a (List.mem_of_mem_erase ha) b (List.mem_of_mem_erase hb) hne⟩
    rw [← hasT_N]
    exact hasT_of (h3 p hp).2 hk N (h3 p hp).1
theorem hasK_iff {R : Nat → Nat} {N : Nat} (hsym : ∀ p q, p < N → q < N → (R p).testBit q = (R q).testBit p) {m F : Nat} : hasK R N m F = true ↔ ∃ l, Uc R N m F l :=
  ⟨hasK_ex hsym m F, fun ⟨l, h⟩ => hasK_of m F l h⟩
theorem hasK_congr {R S : Nat → Nat} {N F : Nat} (h : ∀ p, p < N → R p = S p) : ∀ m F, hasK R N m F = hasK S N m F := by
  have h2 : ∀ m F, cC R N m F = cC S N m F := by
    intro m
    induction m with
    | zero => intro F; rfl
    | succ m ih =>
      intro F
      rw [cC_succ, cC_succ]
      refine sm_congr N fun p hp => ?_
      unfold cT
      rw [h p hp, ih]
  intro m F
  unfold hasK
  rw [h2]
theorem rwN_sym {bs : List Nat} {c : Int} {N : Nat} : ∀ p q, p < N → q < N → (rwN bs c N p).testBit q = (rwN bs c N q).testBit p := by
  intro p q hp hq
  unfold rwN; rw [arK_bit, arK_bit, decide_eq_true hp, decide_eq_true hq]
  by_cases e : p = q
  · subst e; rfl
  · rw [nbB_ne e, nbB_ne (fun x => e x.symm)]
    unfold colAt
    rw [eix_comm (i := (p : Int)) (j := (q : Int)) (by omega)]
end Go.Proofs.YtckffliiidgilaaDoor
