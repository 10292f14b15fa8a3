/- Components, one after the other: the numbers. -/
import Derived.Test.YtkiocedhibeieaaDoorSeq2
import Derived.Lib.TrailingZeros
namespace Go.Proofs.YtkiocedhibeieaaDoor
set_option linter.unusedVariables false
set_option linter.unusedSimpArgs false
open Go Go.RowKit
theorem lo_bit {x : Nat} (h0 : x ≠ 0) (h : x < 2 ^ 17) : x.testBit (Lib.ctz 32 x) = true ∧ (∀ j, j < Lib.ctz 32 x → x.testBit j = false) ∧ Lib.ctz 32 x < 17 := by
  obtain ⟨m, hm, hk⟩ := Lib.ctzFrom_spec 32 x (Nat.pos_of_ne_zero h0) (Nat.lt_of_lt_of_le h (by decide))
  have e : Lib.ctzFrom 32 x = Lib.ctz 32 x := by simp [Lib.ctz, h0]
  rw [e] at hm hk
  obtain ⟨k, hkk⟩ : ∃ k, k = Lib.ctz 32 x := ⟨_, rfl⟩
  rw [← hkk] at hm hk ⊢
  have hb : x.testBit k = true := by
    rw [hm, Nat.testBit_two_pow_mul]
    simp
  refine ⟨hb, fun j hj => ?_, ?_⟩
  · rw [hm, Nat.testBit_two_pow_mul]
    simp; omega
  · exact bit_lt h hb
theorem lo_of {x p : Nat} (h : x < 2 ^ 17) (hp : x.testBit p = true) (hj : ∀ j, j < p → x.testBit j = false) : x ≠ 0 ∧ Lib.ctz 32 x = p := by
  have h0 : x ≠ 0 := by rintro rfl; simp at hp
  refine ⟨h0, ?_⟩
  obtain ⟨h1, h2, h3⟩ := lo_bit h0 h
  by_cases a : Lib.ctz 32 x < p
  · rw [hj _ a] at h1; cases h1
  · by_cases b : p < Lib.ctz 32 x
    · rw [h2 _ b] at hp; cases hp
    · omega
/-- The component of the least point. -/
def cpo (F : Nat → Nat) (r : Nat) : Nat := cmC F 17 (Lib.ctz 32 r)
def cps (F : Nat → Nat) : Nat → Nat → List Nat
  | 0, _ => []
  | f + 1, r => if r = 0 then [] else cpo F r :: cps F f (adn r (cpo F r))
theorem adn_less {F : Nat → Nat} {r : Nat} (h0 : r ≠ 0) (h : r < 2 ^ 17) : adn r (cpo F r) < r := by
  obtain ⟨h1, h2, h3⟩ := lo_bit h0 h
  have hr : r < 2 ^ 32 := Nat.lt_of_lt_of_le h (by decide)
  have hle : adn r (cpo F r) ≤ r := le_of_sub fun q hq => by rw [adn_bit hr, Bool.and_eq_true] at hq; exact hq.1
  have hne : adn r (cpo F r) ≠ r := by
    intro e
    have : (adn r (cpo F r)).testBit (Lib.ctz 32 r) = true := by rw [e]; exact h1
    rw [adn_bit hr, show (cpo F r).testBit (Lib.ctz 32 r) = true from cmC_own, Bool.and_eq_true] at this
    exact absurd this.2 (by simp)
  omega
theorem cps_fuel {F : Nat → Nat} : ∀ (r f g : Nat), r < 2 ^ 17 → r ≤ f → r ≤ g → cps F f r = cps F g r := by
  intro r
  induction r using Nat.strongRecOn with
  | _ r ih =>
    intro f g hr hf hg
    by_cases h0 : r = 0
    · subst h0; cases f <;> cases g <;> simp [cps]
    · obtain ⟨f, rfl⟩ : ∃ f', f = f' + 1 := ⟨f - 1, by omega⟩
      obtain ⟨g, rfl⟩ : ∃ g', g = g' + 1 := ⟨g - 1, by omega⟩
      have hl := adn_less (F := F) h0 hr
      rw [cps, cps, if_neg h0, if_neg h0, ih _ hl f g (by omega) (by omega) (by omega)]
/-- The components of the points of r, in the order of their least points. -/
def cpl (F : Nat → Nat) (r : Nat) : List Nat := cps F r r
theorem cpl_zero (F : Nat → Nat) : cpl F 0 = [] := rfl
theorem cpl_step {F : Nat → Nat} {r : Nat} (h0 : r ≠ 0) (h : r < 2 ^ 17) : cpl F r = cpo F r :: cpl F (adn r (cpo F r)) := by
  have hl := adn_less (F := F) h0 h
  obtain ⟨f, hf⟩ : ∃ f, r = f + 1 := ⟨r - 1, by omega⟩
  unfold cpl
  rw [cps_fuel r r (f + 1) h (Nat.le_refl _) (by omega), cps, if_neg h0, cps_fuel (adn r (cpo F r)) f (adn r (cpo F r)) (by omega) (by omega) (Nat.le_refl _)]
/-- What the model puts out from point p on, behind what it has met. -/
def mps (F : Nat → Nat) (N : Nat) : Nat → Nat → Nat → List Nat
  | 0, _, _ => []
  | d + 1, p, met => if met.testBit p = true then mps F N d (p + 1) met else cmC F N p :: mps F N d (p + 1) (met ||| cmC F N p)
theorem mps_len (F : Nat → Nat) (N : Nat) : ∀ d p met, (mps F N d p met).length ≤ d
  | 0, _, _ => Nat.le_refl _
  | d + 1, p, met => by
    rw [mps]
    split
    · have := mps_len F N d (p + 1) met; omega
    · have := mps_len F N d (p + 1) (met ||| cmC F N p)
      simp only [List.length_cons]; omega
theorem cpl_mps {F G : Nat → Nat} {N : Nat} (hN : N ≤ 17) (hc : ∀ v, v < N → cmC F 17 v = cmC G N v) : ∀ d p met r, p + d = N → (∀ q, r.testBit q = (decide (q < N) && !met.testBit q)) → (∀ q, q < p → met.testBit q = true) → cpl F r = mps G N d p met
  | 0, p, met, r, hp, hr, hm => by
    have h0 : r = 0 := Nat.eq_of_testBit_eq fun q => by
      rw [hr, Nat.zero_testBit]
      by_cases h : q < N
      · rw [hm q (by omega)]; simp
      · simp [h]
    rw [h0]; rfl
  | d + 1, p, met, r, hp, hr, hm => by
    have hr17 : r < 2 ^ 17 := bits_lt fun q hq => by
      rw [hr, Bool.and_eq_true] at hq
      have := of_decide_eq_true hq.1
      omega
    rw [mps]
    by_cases h : met.testBit p = true
    · rw [if_pos h]
      exact cpl_mps hN hc d (p + 1) met r (by omega) hr fun q hq => by
        by_cases e : q = p
        · subst e; exact h
        · exact hm q (by omega)
    · rw [if_neg h]
      have h' : met.testBit p = false := by simpa using h
      have hpN : p < N := by omega
      obtain ⟨h0, hz⟩ := lo_of hr17 (p := p) (by rw [hr, h']; simp [hpN]) (fun j hj => by rw [hr, hm j hj]; simp)
      have e : cpo F r = cmC G N p := by unfold cpo; rw [hz]; exact hc p hpN
      rw [cpl_step h0 hr17, e]
      congr 1
      refine cpl_mps hN hc d (p + 1) (met ||| cmC G N p) _ (by omega) (fun q => ?_) (fun q hq => ?_)
      · rw [adn_bit (Nat.lt_of_lt_of_le hr17 (by decide)), hr, Nat.testBit_or]
        cases decide (q < N) <;> cases met.testBit q <;> cases (cmC G N p).testBit q <;> rfl
      · rw [Nat.testBit_or]
        by_cases e : q = p
        · subst e; rw [show (cmC G N q).testBit q = true from cmC_own]; simp
        · rw [hm q (by omega)]; rfl
theorem all_bit (N q : Nat) : (2 ^ N - 1).testBit q = (decide (q < N) && !(0 : Nat).testBit q) := by
  rw [Nat.testBit_two_pow_sub_one]; simp
end Go.Proofs.YtkiocedhibeieaaDoor
