/- The model's list of extensions: as many of all of them as are asked for, in order; how many there are. -/
import Derived.Test.YtckffliiidgilaaDoorCnx
namespace Go.Proofs.YtckffliiidgilaaDoor
set_option linter.unusedVariables false
set_option linter.unusedSimpArgs false
open Go Go.RowKit
/-- All ways to go on, in order. -/
def exL (ok : Nat → Nat → Nat → Bool) (K N : Nat) : Nat → (Nat → Nat) → List Int → List (List Int)
  | 0, _, cs => [cs]
  | r + 1, s, cs => (List.range K).flatMap fun c => if ok c (N - (r + 1)) (s c) = true then exL ok K N r (setF s c (s c ||| 2 ^ (N - (r + 1)))) (cs ++ [(c : Int)]) else []
/-- Those with one of the first c colours. -/
def pfE (ok : Nat → Nat → Nat → Bool) (K N r : Nat) (s : Nat → Nat) (cs : List Int) (c : Nat) : List (List Int) :=
  (List.range c).flatMap fun c => if ok c (N - (r + 1)) (s c) = true then exL ok K N r (setF s c (s c ||| 2 ^ (N - (r + 1)))) (cs ++ [(c : Int)]) else []
section
variable {ok : Nat → Nat → Nat → Bool} {K N r : Nat} {s : Nat → Nat} {cs : List Int}
theorem pfE_0 : pfE ok K N r s cs 0 = [] := rfl
theorem pfE_K : pfE ok K N r s cs K = exL ok K N (r + 1) s cs := rfl
theorem pfE_step (c : Nat) : pfE ok K N r s cs (c + 1) = pfE ok K N r s cs c ++ if ok c (N - (r + 1)) (s c) = true then exL ok K N r (setF s c (s c ||| 2 ^ (N - (r + 1)))) (cs ++ [(c : Int)]) else [] := by
  unfold pfE; rw [List.range_succ, List.flatMap_append]; simp
theorem pfE_no {c : Nat} (h : ok c (N - (r + 1)) (s c) = false) : pfE ok K N r s cs (c + 1) = pfE ok K N r s cs c := by
  rw [pfE_step, if_neg (by rw [h]; simp), List.append_nil]
theorem pfE_yes {c : Nat} (h : ok c (N - (r + 1)) (s c) = true) : pfE ok K N r s cs (c + 1) = pfE ok K N r s cs c ++ exL ok K N r (setF s c (s c ||| 2 ^ (N - (r + 1)))) (cs ++ [(c : Int)]) := by
  rw [pfE_step, if_pos h]
theorem pfE_pre (c : Nat) : ∀ d, c ≤ d → ∃ T, pfE ok K N r s cs d = pfE ok K N r s cs c ++ T
  | 0, h => ⟨[], by rw [Nat.le_zero.1 h]; simp⟩
  | d + 1, h => by
    by_cases e : c = d + 1
    · exact ⟨[], by rw [e]; simp⟩
    · obtain ⟨T, hT⟩ := pfE_pre c d (by omega)
      exact ⟨_, by rw [pfE_step, hT, List.append_assoc]⟩
/-- The loop may end as soon as there are enough. -/
theorem pfE_full {c M : Nat} (hc : c ≤ K) (h : M ≤ (pfE ok K N r s cs c).length) : (pfE ok K N r s cs c).take M = (exL ok K N (r + 1) s cs).take M := by
  obtain ⟨T, hT⟩ := pfE_pre (ok := ok) (K := K) (N := N) (r := r) (s := s) (cs := cs) c K hc
  rw [← pfE_K, hT, List.take_append_of_le_length h]
end
theorem exL_len {ok : Nat → Nat → Nat → Bool} {K N : Nat} : ∀ (r : Nat) (s : Nat → Nat) (cs : List Int), ∀ x ∈ exL ok K N r s cs, x.length = cs.length + r
  | 0, s, cs, x, hx => by
    rw [exL, List.mem_singleton] at hx; rw [hx]; rfl
  | r + 1, s, cs, x, hx => by
    rw [exL, List.mem_flatMap] at hx
    obtain ⟨c, _, hx⟩ := hx
    split at hx
    · rw [exL_len r _ _ x hx]; simp; omega
    · cases hx
/-- How many there are: what the counts add up to. -/
theorem dcn_sum {ok : Nat → Nat → Nat → Bool} {K N : Nat} (g : Nat → Nat → Nat) (D : Nat) : ∀ (r : Nat) (s : Nat → Nat), sm (fun d => dcn ok K N (g d) r s) D = dcn ok K N (fun T => sm (fun d => g d T) D) r s
  | 0, s => rfl
  | r + 1, s => by
    have hex : ∀ (f : Nat → Nat → Nat) (a b : Nat), sm (fun d => sm (fun c => f d c) b) a = sm (fun c => sm (fun d => f d c) a) b := fun f a b => by
      induction a with
      | zero =>
        have : ∀ b, sm (fun _ => 0) b = 0 := fun b => by
          induction b with
          | zero => rfl
          | succ b ih => rw [sm, ih]
        show 0 = _
        exact (this b).symm
      | succ a ih =>
        rw [sm, ih]
        have hadd : ∀ (f g : Nat → Nat) b, sm (fun c => f c + g c) b = sm f b + sm g b := fun f g b => by
          induction b with
          | zero => rfl
          | succ b ih => rw [sm, sm, sm, ih]; omega
        rw [← hadd]; rfl
    simp only [dcn]
    rw [hex]
    congr 1
    funext c
    by_cases h : ok c (N - (r + 1)) (s c) = true
    · simp only [if_pos h]
      exact dcn_sum g D r _
    · simp only [if_neg h]
      induction D with
      | zero => rfl
      | succ D ih => rw [sm, ih]
theorem dcn_one {ok : Nat → Nat → Nat → Bool} {K N : Nat} (hK : 1 ≤ K) {fin : Nat → Nat} (hf : ∀ T, T < 2 ^ N → fin T = 1) : ∀ (r : Nat), r ≤ N → ∀ (s : Nat → Nat) (cs : List Int), s 0 < 2 ^ (N - r) → dcn ok K N fin r s = (exL ok K N r s cs).length
  | 0, _, s, cs, h => by rw [dcn, exL, hf _ (by simpa using h)]; rfl
  | r + 1, hr, s, cs, h => by
    have key : ∀ c, c ≤ K → sm (fun c => if ok c (N - (r + 1)) (s c) = true then dcn ok K N fin r (setF s c (s c ||| 2 ^ (N - (r + 1)))) else 0) c = (pfE ok K N r s cs c).length := by
      intro c
      induction c with
      | zero => intro _; rfl
      | succ c ih =>
        intro hc
        rw [sm, ih (by omega), pfE_step, List.length_append]
        congr 1
        by_cases ho : ok c (N - (r + 1)) (s c) = true
        · rw [if_pos ho, if_pos ho]
          refine dcn_one hK hf r (by omega) _ _ ?_
          have h22 : 2 ^ (N - (r + 1)) < 2 ^ (N - r) := Nat.pow_lt_pow_right (by omega) (by omega)
          by_cases hc0 : 0 = c
          · rw [← hc0, setF_same]
            exact Nat.or_lt_two_pow (Nat.lt_trans h h22) h22
          · rw [setF_ne _ _ hc0]; exact Nat.lt_trans h h22
        · rw [if_neg ho, if_neg ho]; rfl
    exact key K (Nat.le_refl _)
theorem fnd_sum {T : Nat} : ∀ D, ones T < D → sm (fun d => fnd d T) D = 1
  | 0, h => by omega
  | D + 1, h => by
    rw [sm]
    by_cases e : ones T = D
    · have h0 : ∀ D', D' ≤ ones T → sm (fun d => fnd d T) D' = 0 := fun D' => by
        induction D' with
        | zero => intro _; rfl
        | succ D' ih => intro h'; rw [sm, ih (by omega)]; unfold fnd; rw [if_neg (by omega)]
      rw [h0 D (by omega)]; unfold fnd; rw [if_pos e]
    · rw [fnd_sum D (by omega)]; unfold fnd; rw [if_neg e]
/-- All extensions. -/
def exA (bs : List Nat) (N K : Nat) (zs : List Int) : List (List Int) := exL (okx bs N zs) K N N (fun _ => 0) []
theorem exA_len {bs : List Nat} {N K : Nat} {zs : List Int} (hN : N ≤ 17) (hK : 1 ≤ K) (h2 : no1 zs K) : (exA bs N K zs).length = cnS bs N K zs (N + 1) := by
  have h1 : cnS bs N K zs (N + 1) = sm (fun d => cdN bs N K zs d) (N + 1) := by
    unfold cnS; congr 1; funext d; exact (cd_pd hN hK h2 d).symm
  rw [h1]
  unfold cdN exA
  rw [dcn_sum fnd (N + 1) N (fun _ => 0)]
  exact (dcn_one hK (fun T hT => fnd_sum _ (by have := ones_N hT; omega)) N (Nat.le_refl _) _ _ (by simp)).symm
end Go.Proofs.YtckffliiidgilaaDoor
