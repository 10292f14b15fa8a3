/- Components: the sets that grow by their neighbours, as numbers; nothing of the program. -/
import Derived.Test.YtkiocedhibeieaaDoorDbm
namespace Go.Proofs.YtkiocedhibeieaaDoor
set_option linter.unusedVariables false
set_option linter.unusedSimpArgs false
open Go Go.RowKit
/-- The neighbours of the members below j of S. -/
def arU (F : Nat → Nat) (S : Nat) : Nat → Nat
  | 0 => 0
  | j + 1 => if S.testBit j then arU F S j ||| F j else arU F S j
theorem arU_bit {F : Nat → Nat} {S q : Nat} : ∀ {j}, (arU F S j).testBit q = true ↔ ∃ p, p < j ∧ S.testBit p = true ∧ (F p).testBit q = true
  | 0 => by simp [arU]
  | j + 1 => by
    have ih := arU_bit (F := F) (S := S) (q := q) (j := j)
    rw [arU]
    split
    · rename_i h
      rw [Nat.testBit_or, Bool.or_eq_true, ih]
      constructor
      · rintro (⟨p, hp, h1, h2⟩ | h2)
        · exact ⟨p, by omega, h1, h2⟩
        · exact ⟨j, by omega, h, h2⟩
      · rintro ⟨p, hp, h1, h2⟩
        by_cases e : p = j
        · subst e; exact .inr h2
        · exact .inl ⟨p, by omega, h1, h2⟩
    · rename_i h
      rw [ih]
      constructor
      · rintro ⟨p, hp, h1, h2⟩
        exact ⟨p, by omega, h1, h2⟩
      · rintro ⟨p, hp, h1, h2⟩
        by_cases e : p = j
        · subst e; exact absurd h1 h
        · exact ⟨p, by omega, h1, h2⟩
theorem bits_lt {X d : Nat} (h : ∀ q, X.testBit q = true → q < d) : X < 2 ^ d := by
  refine Nat.lt_of_not_le fun hge => ?_
  obtain ⟨i, hi, hb⟩ := Nat.exists_ge_and_testBit_of_ge_two_pow hge
  exact absurd (h i hb) (by omega)
theorem bit_lt {X d q : Nat} (h : X < 2 ^ d) (hq : X.testBit q = true) : q < d := by
  refine Nat.lt_of_not_le fun hge => ?_
  have := Nat.testBit_lt_two_pow (Nat.lt_of_lt_of_le h (Nat.pow_le_pow_right (by omega) hge))
  rw [this] at hq
  exact absurd hq (by simp)
theorem arU_lt {F : Nat → Nat} {S d : Nat} (hF : ∀ p, F p < 2 ^ d) (j : Nat) : arU F S j < 2 ^ d :=
  bits_lt fun q hq => by
    obtain ⟨p, _, _, h⟩ := arU_bit.1 hq
    exact bit_lt (hF p) h
/-- What the specification's inner loop has grown to after j rows: S and the neighbours of its members below j. -/
def grU (F : Nat → Nat) (S j : Nat) : Nat := S ||| arU F S j
theorem grU_zero (F : Nat → Nat) (S : Nat) : grU F S 0 = S := by simp [grU, arU]
theorem grU_yes {F : Nat → Nat} {S j : Nat} (h : S.testBit j = true) : grU F S (j + 1) = grU F S j ||| F j := by
  rw [grU, arU, if_pos h, ← Nat.or_assoc]; rfl
theorem grU_no {F : Nat → Nat} {S j : Nat} (h : S.testBit j = false) : grU F S (j + 1) = grU F S j := by
  rw [grU, arU, if_neg (by simp [h])]; rfl
/-- The members after k steps from the point v, among N points. -/
def cmS (F : Nat → Nat) (N v : Nat) : Nat → Nat
  | 0 => 2 ^ v
  | k + 1 => grU F (cmS F N v k) N
theorem cmS_sub {F : Nat → Nat} {N v k q : Nat} (h : (cmS F N v k).testBit q = true) : (cmS F N v (k + 1)).testBit q = true := by
  rw [cmS, grU, Nat.testBit_or, h]; rfl
theorem cmS_lt {F : Nat → Nat} {N v d : Nat} (hF : ∀ p, F p < 2 ^ d) (hv : v < d) : ∀ k, cmS F N v k < 2 ^ d
  | 0 => Nat.pow_lt_pow_right (by omega) hv
  | k + 1 => by
    rw [cmS, grU]
    exact Nat.or_lt_two_pow (cmS_lt hF hv k) (arU_lt hF N)
theorem le_of_sub {X Y : Nat} (h : ∀ q, X.testBit q = true → Y.testBit q = true) : X ≤ Y := by
  have e : X ||| Y = Y := by
    apply Nat.eq_of_testBit_eq
    intro i
    rw [Nat.testBit_or]
    cases hx : X.testBit i
    · simp
    · simp [h i hx]
  rw [← e]
  exact Nat.left_le_or
theorem cmS_le (F : Nat → Nat) (N v k : Nat) : cmS F N v k ≤ cmS F N v (k + 1) := le_of_sub fun _ h => cmS_sub h
/-- The program's layers: what is new at the step k. -/
def cmL (F : Nat → Nat) (N v : Nat) : Nat → Nat
  | 0 => 2 ^ v
  | k + 1 => adn (arU F (cmL F N v k) N) (cmS F N v k)
theorem cmL_bit {F : Nat → Nat} {N v : Nat} (hF : ∀ p, F p < 2 ^ 17) (hv : v < 17) {q : Nat} : ∀ {k}, (cmL F N v (k + 1)).testBit q = true ↔ (cmS F N v (k + 1)).testBit q = true ∧ (cmS F N v k).testBit q = false
  | 0 => by
    rw [cmL, adn_bit (Nat.lt_of_lt_of_le (arU_lt hF N) (by omega))]
    show (_ && !(2 ^ v).testBit q) = true ↔ (grU F (2 ^ v) N).testBit q = true ∧ (2 ^ v).testBit q = false
    rw [grU, Nat.testBit_or]
    show ((arU F (2 ^ v) N).testBit q && !(2 ^ v).testBit q) = true ↔ _
    cases (2 ^ v).testBit q <;> cases (arU F (2 ^ v) N).testBit q <;> simp
  | k + 1 => by
    have ih := fun q => cmL_bit (F := F) (N := N) (v := v) hF hv (q := q) (k := k)
    rw [cmL, adn_bit (Nat.lt_of_lt_of_le (arU_lt hF N) (by omega))]
    rw [show cmS F N v (k + 1 + 1) = grU F (cmS F N v (k + 1)) N from rfl, grU, Nat.testBit_or]
    have key : (cmS F N v (k + 1)).testBit q = false → ((arU F (cmL F N v (k + 1)) N).testBit q = true ↔ (arU F (cmS F N v (k + 1)) N).testBit q = true) := by
      intro hq
      rw [arU_bit, arU_bit]
      constructor
      · rintro ⟨p, hp, h1, h2⟩
        exact ⟨p, hp, ((ih p).1 h1).1, h2⟩
      · rintro ⟨p, hp, h1, h2⟩
        refine ⟨p, hp, (ih p).2 ⟨h1, ?_⟩, h2⟩
        cases hk : (cmS F N v k).testBit p
        · rfl
        · refine absurd hq ?_
          rw [cmS, grU, Nat.testBit_or, (arU_bit (F := F) (S := cmS F N v k) (q := q) (j := N)).2 ⟨p, hp, hk, h2⟩]
          simp
    cases hq : (cmS F N v (k + 1)).testBit q
    · have hk := key hq
      cases ha : (arU F (cmL F N v (k + 1)) N).testBit q <;> cases hb : (arU F (cmS F N v (k + 1)) N).testBit q <;> simp_all
    · simp
theorem cmL_or {F : Nat → Nat} {N v : Nat} (hF : ∀ p, F p < 2 ^ 17) (hv : v < 17) (k : Nat) : cmS F N v k ||| cmL F N v (k + 1) = cmS F N v (k + 1) := by
  apply Nat.eq_of_testBit_eq
  intro q
  have h := cmL_bit (F := F) (N := N) (v := v) hF hv (q := q) (k := k)
  have h2 := cmS_sub (F := F) (N := N) (v := v) (k := k) (q := q)
  rw [Nat.testBit_or]
  cases ha : (cmS F N v k).testBit q <;> cases hb : (cmL F N v (k + 1)).testBit q <;> cases hc : (cmS F N v (k + 1)).testBit q <;> simp_all
theorem cmL_lt {F : Nat → Nat} {N v : Nat} (hF : ∀ p, F p < 2 ^ 17) (hv : v < 17) : ∀ k, cmL F N v k < 2 ^ 17
  | 0 => Nat.pow_lt_pow_right (by omega) hv
  | k + 1 => bits_lt fun q hq => bit_lt (cmS_lt hF hv (k + 1)) ((cmL_bit hF hv).1 hq).1
theorem cmL_zero {F : Nat → Nat} {N v : Nat} (hF : ∀ p, F p < 2 ^ 17) (hv : v < 17) (k : Nat) : cmL F N v (k + 1) = 0 ↔ cmS F N v (k + 1) = cmS F N v k := by
  constructor
  · intro h
    rw [← cmL_or hF hv k, h, Nat.or_zero]
  · intro h
    apply Nat.eq_of_testBit_eq
    intro q
    rw [Nat.zero_testBit]
    cases hq : (cmL F N v (k + 1)).testBit q
    · rfl
    · have := (cmL_bit hF hv).1 hq
      rw [h] at this
      simp_all
theorem cmS_still {F : Nat → Nat} {N v k : Nat} (h : cmS F N v (k + 1) = cmS F N v k) : ∀ m, cmS F N v (k + m) = cmS F N v k
  | 0 => rfl
  | m + 1 => by
    have ih := cmS_still h m
    rw [show k + (m + 1) = (k + m) + 1 from by omega, cmS, ih, ← cmS, h]
theorem cmS_grow {F : Nat → Nat} {N v : Nat} : ∀ m, (∀ k, k < m → cmS F N v (k + 1) ≠ cmS F N v k) → m ≤ cmS F N v m
  | 0, _ => Nat.zero_le _
  | m + 1, h => by
    have ih := cmS_grow m fun k hk => h k (by omega)
    have h1 := cmS_le F N v m
    have h2 := h m (by omega)
    omega
/-- The component of the point v: where the growing ends. -/
def cmC (F : Nat → Nat) (N v : Nat) : Nat := cmS F N v (2 ^ 17)
theorem cmC_of {F : Nat → Nat} {N v : Nat} (hF : ∀ p, F p < 2 ^ 17) (hv : v < 17) {k : Nat} (h : cmS F N v (k + 1) = cmS F N v k) : cmC F N v = cmS F N v k := by
  have h0 : ∃ k0, k0 < 2 ^ 17 ∧ cmS F N v (k0 + 1) = cmS F N v k0 := by
    refine Classical.byContradiction fun hno => ?_
    have := cmS_grow (F := F) (N := N) (v := v) (2 ^ 17) fun k hk e => hno ⟨k, hk, e⟩
    exact absurd (cmS_lt hF hv (2 ^ 17)) (Nat.not_lt.2 this)
  obtain ⟨k0, hk0, e0⟩ := h0
  have a := cmS_still e0 (2 ^ 17 - k0)
  rw [show k0 + (2 ^ 17 - k0) = 2 ^ 17 from Nat.add_sub_cancel' (Nat.le_of_lt hk0)] at a
  rw [cmC, a]
  rcases Nat.le_total k0 k with hle | hle
  · have := cmS_still e0 (k - k0)
    rw [show k0 + (k - k0) = k from by omega] at this
    exact this.symm
  · have := cmS_still h (k0 - k)
    rw [show k + (k0 - k) = k0 from by omega] at this
    exact this
theorem cmC_lt {F : Nat → Nat} {N v d : Nat} (hF : ∀ p, F p < 2 ^ d) (hv : v < d) : cmC F N v < 2 ^ d := cmS_lt hF hv _
theorem cmS_own {F : Nat → Nat} {N v : Nat} : ∀ k, (cmS F N v k).testBit v = true
  | 0 => by rw [cmS, Nat.testBit_two_pow]; simp
  | k + 1 => cmS_sub (cmS_own k)
theorem cmC_own {F : Nat → Nat} {N v : Nat} : (cmC F N v).testBit v = true := cmS_own _
end Go.Proofs.YtkiocedhibeieaaDoor
