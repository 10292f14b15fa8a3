/- Where the beginnings of a colouring stop avoiding sizes. Nothing of the program. -/
import Derived.Test.YtckffliiidgilaaDoorUcl
namespace Go.Proofs.YtckffliiidgilaaDoor
set_option linter.unusedVariables false
set_option linter.unusedSimpArgs false
/-- Greater points first, each two of them neighbours. -/
def Chn (R : Nat → Nat) (s : List Nat) : Prop := s.Pairwise fun a b => b < a ∧ (R b).testBit a = true
theorem cqE_chn {R : Nat → Nat} {N : Nat} : ∀ (d : Nat) (t c : List Nat), d ≤ N → Chn R t → (∀ a ∈ t, a < N - d) → c ∈ cqE (fitR R) N d t → Chn R c ∧ c ≠ [] ∧ ∀ a ∈ c, a < N
  | 0, t, c, _, _, _, h => by simp [cqE] at h
  | d + 1, t, c, hd, ht, hb, h => by
    have hrest : c ∈ cqE (fitR R) N d t → Chn R c ∧ c ≠ [] ∧ ∀ a ∈ c, a < N := fun h => cqE_chn d t c (by omega) ht (fun a ha => by have := hb a ha; omega) h
    rw [cqE] at h
    split at h
    · rename_i hf
      have hch : Chn R ((N - (d + 1)) :: t) := by
        refine List.pairwise_cons.2 ⟨fun b hbm => ⟨hb b hbm, ?_⟩, ht⟩
        exact (List.all_eq_true.1 hf) b hbm
      rcases List.mem_cons.1 h with rfl | h
      · exact ⟨hch, by simp, fun a ha => by
          rcases List.mem_cons.1 ha with rfl | ha
          · omega
          · have := hb a ha; omega⟩
      · rcases List.mem_append.1 h with h | h
        · exact cqE_chn d _ c (by omega) hch (fun a ha => by
            rcases List.mem_cons.1 ha with rfl | ha
            · omega
            · have := hb a ha; omega) h
        · exact hrest h
    · exact hrest h
theorem chn_cqE {R : Nat → Nat} {N : Nat} : ∀ (d : Nat) (t r : List Nat), d ≤ N → r ≠ [] → Chn R (r.reverse ++ t) → (∀ a ∈ r, N - d ≤ a ∧ a < N) → r.reverse ++ t ∈ cqE (fitR R) N d t
  | 0, t, r, _, hr, _, hb => by
    cases r with
    | nil => exact absurd rfl hr
    | cons v r => have := hb v (by simp); omega
  | d + 1, t, r, hd, hr, hc, hb => by
    cases r with
    | nil => exact absurd rfl hr
    | cons v r =>
      have e : (v :: r).reverse ++ t = r.reverse ++ (v :: t) := by simp
      rw [e] at hc
      have hgt : ∀ a ∈ r, v < a := fun a ha => ((List.pairwise_append.1 hc).2.2 a (by simpa using ha) v (by simp)).1
      have hv := hb v (by simp)
      by_cases hj : v = N - (d + 1)
      · have hf : fitR R t (N - (d + 1)) = true := by
          refine List.all_eq_true.2 fun b hbm => ?_
          rw [← hj]
          exact ((List.pairwise_cons.1 (List.pairwise_append.1 hc).2.1).1 b hbm).2
        rw [e, cqE, if_pos hf, ← hj]
        cases r with
        | nil => simp
        | cons u r =>
          refine List.mem_cons_of_mem _ (List.mem_append_left _ ?_)
          exact chn_cqE d (v :: t) (u :: r) (by omega) (by simp) hc (fun a ha => ⟨by have := hgt a ha; omega, (hb a (List.mem_cons_of_mem _ ha)).2⟩)
      · have hm : (v :: r).reverse ++ t ∈ cqE (fitR R) N d t := chn_cqE d t (v :: r) (by omega) hr (by rw [e]; exact hc) (fun a ha => ⟨by
          rcases List.mem_cons.1 ha with rfl | ha
          · omega
          · have := hgt a ha; omega, (hb a ha).2⟩)
        rw [cqE]
        split
        · exact List.mem_cons_of_mem _ (List.mem_append_right _ hm)
        · exact hm
theorem mem_cqE {R : Nat → Nat} {N : Nat} {s : List Nat} : s ∈ cqE (fitR R) N N [] ↔ s ≠ [] ∧ Chn R s ∧ ∀ a ∈ s, a < N := by
  constructor
  · intro h
    obtain ⟨h1, h2, h3⟩ := cqE_chn N [] s (Nat.le_refl _) List.Pairwise.nil (by simp) h
    exact ⟨h2, h1, h3⟩
  · rintro ⟨h1, h2, h3⟩
    have := chn_cqE (R := R) (N := N) N [] s.reverse (Nat.le_refl _) (by simpa using h1) (by simpa using h2) (fun a ha => ⟨by omega, h3 a (by simpa using ha)⟩)
    simpa using this
theorem chn_uc {R : Nat → Nat} {N : Nat} (hsym : ∀ p q, p < N → q < N → (R p).testBit q = (R q).testBit p) {s : List Nat} (h : Chn R s) (hb : ∀ a ∈ s, a < N) : Uc R N s.length (2 ^ N - 1) s := by
  refine ⟨h.imp (fun h e => by omega), rfl, fun p hp => ⟨hb p hp, full_bit (hb p hp)⟩, ?_⟩
  intro p hp q hq hne
  obtain ⟨i, hi, rfl⟩ := List.getElem_of_mem hp
  obtain ⟨j, hj, rfl⟩ := List.getElem_of_mem hq
  have hp2 := List.pairwise_iff_getElem.1 h
  rcases Nat.lt_trichotomy i j with hlt | heq | hgt
  · rw [hsym _ _ (hb _ (List.getElem_mem hi)) (hb _ (List.getElem_mem hj))]; exact (hp2 i j hi hj hlt).2
  · subst heq; exact absurd rfl hne
  · exact (hp2 j i hj hi hgt).2
/-- The neighbours among the first points are the same ones. -/
theorem rwN_small {bs : List Nat} {c : Int} {M N p q : Nat} (hM : M ≤ N) (hq : q < M) : (rwN bs c M p).testBit q = (rwN bs c N p).testBit q := by
  unfold rwN; rw [arK_bit, arK_bit, decide_eq_true hq, decide_eq_true (show q < N by omega)]
theorem beg_of {bs : List Nat} {c : Int} {N q : Nat} {s : List Nat} (h : (q :: s) ∈ cqE (fitR (rwN bs c N)) N N []) : hasK (rwN bs c (q + 1)) (q + 1) (q :: s).length (2 ^ (q + 1) - 1) = true := by
  obtain ⟨_, h2, h3⟩ := mem_cqE.1 h
  have hq := h3 q (by simp)
  have hlt : ∀ a ∈ q :: s, a < q + 1 := fun a ha => by
    rcases List.mem_cons.1 ha with rfl | ha
    · omega
    · have := ((List.pairwise_cons.1 h2).1 a ha).1; omega
  refine hasK_of _ _ (q :: s) (chn_uc rwN_sym ?_ hlt)
  refine List.Pairwise.imp_of_mem ?_ h2
  intro a b ha hb hab
  exact ⟨hab.1, by rw [rwN_small (N := N) (by omega) (hlt a ha)]; exact hab.2⟩
theorem beg_ex {bs : List Nat} {c : Int} {N q m : Nat} (hq : q < N) (hm : m ≠ 0) (h : hasK (rwN bs c (q + 1)) (q + 1) m (2 ^ (q + 1) - 1) = true) : ∃ p s, p ≤ q ∧ (p :: s) ∈ cqE (fitR (rwN bs c N)) N N [] ∧ (p :: s).length = m := by
  have hl := clqL_cnt bs c (q + 1) m
  have hpos : 0 < (clqL bs c (q + 1) m).length := by rw [hl]; exact of_decide_eq_true h
  unfold clqL at hpos
  rw [cqH_less (by simpa using fun e => hm e.symm)] at hpos
  unfold cqL at hpos
  rw [List.length_map] at hpos
  obtain ⟨s, hs⟩ := List.exists_mem_of_length_pos hpos
  rw [List.mem_filter] at hs
  obtain ⟨h1, h2, h3⟩ := mem_cqE.1 hs.1
  cases s with
  | nil => exact absurd rfl h1
  | cons p s =>
    refine ⟨p, s, by have := h3 p (by simp); omega, mem_cqE.2 ⟨by simp, ?_, fun a ha => by have := h3 a ha; omega⟩, of_decide_eq_true hs.2⟩
    refine List.Pairwise.imp_of_mem ?_ h2
    intro a b ha hb hab
    exact ⟨hab.1, by rw [← rwN_small (M := q + 1) (by omega) (h3 a ha)]; exact hab.2⟩
end Go.Proofs.YtckffliiidgilaaDoor
