/- Sides of a colour: the numbers. -/
import Derived.Test.YtkiocedhibeieaaDoorCno
namespace Go.Proofs.YtkiocedhibeieaaDoor
set_option linter.unusedVariables false
set_option linter.unusedSimpArgs false
open Go Go.RowKit Go.Shelf
/-- What holds of v and goes over to neighbours holds of all that v reaches. -/
theorem cmC_ind {F : Nat → Nat} {M v : Nat} {P : Nat → Prop} (h0 : P v) (hs : ∀ z u, P z → (F z).testBit u = true → P u) : ∀ y, (cmC F M v).testBit y = true → P y := by
  unfold cmC
  generalize 2 ^ 17 = k
  induction k with
  | zero =>
    intro y hy
    rw [cmS, Nat.testBit_two_pow] at hy
    have : v = y := of_decide_eq_true hy
    subst this; exact h0
  | succ k ih =>
    intro y hy
    rw [cmS, grU, Nat.testBit_or, Bool.or_eq_true] at hy
    rcases hy with hy | hy
    · exact ih y hy
    · obtain ⟨p, hp, h1, h2⟩ := arU_bit.1 hy
      exact hs p y (ih p h1) h2
theorem cmC_still {F : Nat → Nat} {M v : Nat} (hF : ∀ p, F p < 2 ^ 17) (hv : v < 17) : cmS F M v (2 ^ 17 + 1) = cmS F M v (2 ^ 17) := by
  by_cases h : ∃ k, k < 2 ^ 17 ∧ cmS F M v (k + 1) = cmS F M v k
  · obtain ⟨k, hk, e⟩ := h
    have h1 := cmS_still e (2 ^ 17 + 1 - k)
    have h2 := cmS_still e (2 ^ 17 - k)
    rw [show k + (2 ^ 17 + 1 - k) = 2 ^ 17 + 1 by omega] at h1
    rw [show k + (2 ^ 17 - k) = 2 ^ 17 by omega] at h2
    rw [h1, h2]
  · have h1 := cmS_grow (F := F) (N := M) (v := v) (2 ^ 17) (fun k hk e => h ⟨k, hk, e⟩)
    have h2 := cmS_lt (N := M) hF hv (2 ^ 17)
    omega
/-- What is reached is closed. -/
theorem cmC_closed {F : Nat → Nat} {M v : Nat} (hF : ∀ p, F p < 2 ^ 17) (hv : v < 17) {y u : Nat} (hy : (cmC F M v).testBit y = true) (hyM : y < M) (hu : (F y).testBit u = true) : (cmC F M v).testBit u = true := by
  have h := cmC_still (M := M) hF hv
  unfold cmC at hy ⊢
  rw [← h, cmS, grU, Nat.testBit_or, Bool.or_eq_true]
  exact .inr (arU_bit.2 ⟨y, hyM, hy, hu⟩)
/-- Rows of neighbours of N points: symmetrical, and among the N points. -/
structure Nbrs (N : Nat) (F : Nat → Nat) : Prop where
  top : N ≤ 17
  lt : ∀ p, F p < 2 ^ N
  sym : ∀ p q, p < N → q < N → (F p).testBit q = true → (F q).testBit p = true
theorem Nbrs.lt17 {N : Nat} {F : Nat → Nat} (h : Nbrs N F) (p : Nat) : F p < 2 ^ 17 := Nat.lt_of_lt_of_le (h.lt p) (Nat.pow_le_pow_right (by omega) h.top)
theorem Nbrs.cl {N : Nat} {F : Nat → Nat} (h : Nbrs N F) {v y : Nat} (hv : v < N) (hy : (cmC F N v).testBit y = true) : y < N := bit_lt (cmC_lt h.lt hv) hy
theorem Nbrs.trans {N : Nat} {F : Nat → Nat} (h : Nbrs N F) {v y z : Nat} (hv : v < N) (hy : (cmC F N v).testBit y = true) (hz : (cmC F N y).testBit z = true) : (cmC F N v).testBit z = true := by
  have ht := h.top
  refine (cmC_ind (P := fun z => (cmC F N v).testBit z = true) hy (fun a u ha hu => ?_)) z hz
  exact cmC_closed h.lt17 (by omega) ha (h.cl hv ha) hu
theorem Nbrs.symm {N : Nat} {F : Nat → Nat} (h : Nbrs N F) {v y : Nat} (hv : v < N) (hy : (cmC F N v).testBit y = true) : (cmC F N y).testBit v = true := by
  have ht := h.top
  have h1 := cmC_ind (F := F) (M := N) (v := v) (P := fun z => z < N ∧ (cmC F N z).testBit v = true) ⟨hv, cmC_own⟩ (fun a u ha hu => ?_) y hy
  · exact h1.2
  · have hu' : u < N := bit_lt (h.lt a) hu
    have h2 := h.sym a u ha.1 hu' hu
    exact ⟨hu', h.trans hu' (cmC_closed h.lt17 (by omega) cmC_own hu' h2) ha.2⟩
theorem Nbrs.same {N : Nat} {F : Nat → Nat} (h : Nbrs N F) {v y : Nat} (hv : v < N) (hy : (cmC F N v).testBit y = true) : cmC F N y = cmC F N v := by
  have hyN := h.cl hv hy
  apply Nat.eq_of_testBit_eq
  intro q
  rw [Bool.eq_iff_iff]
  exact ⟨fun hq => h.trans hv hy hq, fun hq => h.trans hyN (h.symm hv hy) hq⟩
/-- The least point that a point reaches. -/
def lst (F : Nat → Nat) (N p : Nat) : Nat := Lib.ctz 32 (cmC F N p)
theorem Nbrs.lst {N : Nat} {F : Nat → Nat} (h : Nbrs N F) {p : Nat} (hp : p < N) : (cmC F N p).testBit (lst F N p) = true ∧ lst F N p < N := by
  have h17 : cmC F N p < 2 ^ 17 := Nat.lt_of_lt_of_le (cmC_lt h.lt hp) (Nat.pow_le_pow_right (by omega) h.top)
  have h0 : cmC F N p ≠ 0 := by
    intro e
    have := cmC_own (F := F) (N := N) (v := p)
    rw [e] at this
    simp at this
  have h1 := (lo_bit h0 h17).1
  exact ⟨h1, h.cl hp h1⟩
/-- Sides: neighbours differ, and the least point of each component has the side 0. -/
def Sds (N : Nat) (F : Nat → Nat) (f : Nat → Bool) : Prop := (∀ p q, p < N → q < N → (F p).testBit q = true → f p ≠ f q) ∧ ∀ p, p < N → f (lst F N p) = false
theorem Sds.one {N : Nat} {F : Nat → Nat} (h : Nbrs N F) {f g : Nat → Bool} (hf : Sds N F f) (hg : Sds N F g) {x : Nat} (hx : x < N) : f x = g x := by
  obtain ⟨h1, h2⟩ := h.lst hx
  have h3 := h.symm hx h1
  refine (cmC_ind (F := F) (M := N) (v := lst F N x) (P := fun z => z < N ∧ f z = g z) ⟨h2, by rw [hf.2 x hx, hg.2 x hx]⟩ (fun a u ha hu => ?_) x h3).2
  have hu' : u < N := bit_lt (h.lt a) hu
  have e1 := hf.1 a u ha.1 hu' hu
  have e2 := hg.1 a u ha.1 hu' hu
  refine ⟨hu', ?_⟩
  have := ha.2
  revert e1 e2 this
  cases f a <;> cases g a <;> cases f u <;> cases g u <;> simp
end Go.Proofs.YtkiocedhibeieaaDoor
