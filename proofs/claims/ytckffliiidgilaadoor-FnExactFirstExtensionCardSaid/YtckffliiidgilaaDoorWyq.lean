/- The ways from a colour on, summed over the parts of a set from the greatest down. Nothing of the program. -/
import Derived.Test.YtckffliiidgilaaDoorFsq
namespace Go.Proofs.YtckffliiidgilaaDoor
set_option linter.unusedVariables false
set_option linter.unusedSimpArgs false
open Go Go.RowKit
theorem i64_andnot {a b : Nat} (ha : a < 4611686018427387904) (hb : b &&& a = b) : bits .andNot .i64 (a : Int) (b : Int) = ((a ^^^ b : Nat) : Int) := by
  have hble : b ≤ a := by rw [← hb]; exact Nat.and_le_right
  have hx : a ^^^ b < 2 ^ 62 := Nat.xor_lt_two_pow (by omega) (by omega)
  show IntKind.i64.wrap ((BitVec.ofInt 64 (a : Int) &&& ~~~BitVec.ofInt 64 (b : Int)).toNat : Int) = _
  have e : (BitVec.ofInt 64 (a : Int) &&& ~~~BitVec.ofInt 64 (b : Int)).toNat = a ^^^ b := by
    rw [BitVec.ofInt_natCast, BitVec.ofInt_natCast]
    apply Nat.eq_of_testBit_eq
    intro j
    rw [BitVec.testBit_toNat, BitVec.getLsbD_and, BitVec.getLsbD_not, BitVec.getLsbD_ofNat, BitVec.getLsbD_ofNat, Nat.testBit_xor]
    have h1 := sub_of hb j
    by_cases hj : j < 64
    · simp only [hj, decide_true, Bool.true_and]
      cases h2 : a.testBit j <;> cases h3 : b.testBit j <;> simp_all
    · have ha' : a.testBit j = false := Nat.testBit_lt_two_pow (Nat.lt_of_lt_of_le ha (Nat.le_trans (by decide) (Nat.pow_le_pow_right (by decide) (show 62 ≤ j by omega))))
      rw [ha', Bool.and_false] at h1
      rw [ha', ← h1, decide_eq_false hj]; rfl
  rw [e]
  exact IntWalk.i64_in _ (by omega)
theorem sub_prev : ∀ (S t p : Nat), t &&& S = t → p &&& S = p → p < t → p ≤ (t - 1) &&& S := by
  intro S
  induction S using Nat.strongRecOn with
  | _ S ih =>
    intro t p ht hp hlt
    by_cases hS : S = 0
    · subst hS; rw [Nat.and_zero] at ht; omega
    · have ht2 : (t / 2) &&& (S / 2) = t / 2 := by rw [← Nat.and_div_two, ht]
      have hp2 : (p / 2) &&& (S / 2) = p / 2 := by rw [← Nat.and_div_two, hp]
      have hdiv : ((t - 1) &&& S) / 2 = ((t - 1) / 2) &&& (S / 2) := Nat.and_div_two
      have hpar : ∀ x : Nat, (x &&& S) % 2 = (x % 2) * (S % 2) := fun x => by
        rcases Nat.mod_two_eq_zero_or_one x with h1 | h1 <;> rcases Nat.mod_two_eq_zero_or_one S with h2 | h2 <;> rw [h1, h2]
        · have := Nat.and_mod_two_eq_one (a := x) (b := S); omega
        · have := Nat.and_mod_two_eq_one (a := x) (b := S); omega
        · have := Nat.and_mod_two_eq_one (a := x) (b := S); omega
        · exact Nat.and_mod_two_eq_one.2 ⟨h1, h2⟩
      have htp := hpar t
      have hpp := hpar p
      have hqp := hpar (t - 1)
      rw [ht] at htp
      rw [hp] at hpp
      rcases Nat.mod_two_eq_zero_or_one t with h1 | h1
      · have e1 : (t - 1) / 2 = t / 2 - 1 := by omega
        have h3 := ih (S / 2) (by omega) (t / 2) (p / 2) ht2 hp2 (by omega)
        rw [e1] at hdiv
        have h4 : (t - 1) % 2 = 1 := by omega
        rw [h4, Nat.one_mul] at hqp
        rcases Nat.mod_two_eq_zero_or_one S with h5 | h5 <;> rw [h5] at hpp hqp <;> omega
      · have e1 : (t - 1) / 2 = t / 2 := by omega
        rw [e1, ht2] at hdiv
        omega
theorem sm_gap {f : Nat → Nat} {a b : Nat} (hab : a ≤ b) (h : ∀ p, a ≤ p → p < b → f p = 0) : sm f b = sm f a := sm_rest b hab h
/-- A term of the sum. -/
def wyT (bs : List Nat) (N K : Nat) (zs : List Int) (e S p : Nat) : Nat := if p &&& S = p ∧ fre bs N zs (K - (e + 1)) p = true then wyW bs N K zs e (S ^^^ p) else 0
theorem wy_sum {bs : List Nat} {N K : Nat} {zs : List Int} {e : Nat} (he : e + 2 ≤ K) (S : Nat) : wyW bs N K zs (e + 1) S = sm (wyT bs N K zs e S) (2 ^ N) := wy_succ he S
/-- What is told when the parts down to t are still to come. -/
def WyI (bs : List Nat) (N K : Nat) (zs : List Int) (e S t v : Nat) : Prop := t &&& S = t ∧ v + sm (wyT bs N K zs e S) (t + 1) = wyW bs N K zs (e + 1) S + wyW bs N K zs e S
theorem wyT_0 {bs : List Nat} {N K : Nat} {zs : List Int} {e S : Nat} (hN : N ≤ 17) (h2 : no1 zs K) (he : e + 2 ≤ K) : wyT bs N K zs e S 0 = wyW bs N K zs e S := by
  unfold wyT
  rw [if_pos ⟨Nat.zero_and S, fre_empty hN h2 (by omega)⟩, Nat.xor_zero]
theorem WyI.start {bs : List Nat} {N K : Nat} {zs : List Int} {e S : Nat} (he : e + 2 ≤ K) (hS : S < 2 ^ N) : WyI bs N K zs e S S (wyW bs N K zs e S) := by
  refine ⟨Nat.and_self S, ?_⟩
  rw [wy_sum he, sm_gap (f := wyT bs N K zs e S) (a := S + 1) (b := 2 ^ N) (by omega) (fun p h1 _ => by
    unfold wyT
    rw [if_neg (fun h => by have := Nat.and_le_right (n := p) (m := S); rw [h.1] at this; omega)])]
  omega
theorem WyI.done {bs : List Nat} {N K : Nat} {zs : List Int} {e S v : Nat} (hN : N ≤ 17) (h2 : no1 zs K) (he : e + 2 ≤ K) (h : WyI bs N K zs e S 0 v) : v = wyW bs N K zs (e + 1) S := by
  have h3 := h.2
  have e1 : sm (wyT bs N K zs e S) (0 + 1) = wyT bs N K zs e S 0 := by simp [sm]
  rw [e1, wyT_0 hN h2 he] at h3
  omega
theorem WyI.step {bs : List Nat} {N K : Nat} {zs : List Int} {e S t v : Nat} (h : WyI bs N K zs e S t v) (ht : t ≠ 0) : WyI bs N K zs e S ((t - 1) &&& S) (v + if fre bs N zs (K - (e + 1)) t = true then wyW bs N K zs e (S ^^^ t) else 0) := by
  obtain ⟨h1, h2⟩ := h
  have hle : (t - 1) &&& S ≤ t - 1 := Nat.and_le_left
  refine ⟨by rw [Nat.and_assoc, Nat.and_self], ?_⟩
  have e1 : sm (wyT bs N K zs e S) t = sm (wyT bs N K zs e S) (((t - 1) &&& S) + 1) := sm_gap (by omega) (fun p h3 h4 => by
    unfold wyT
    rw [if_neg (fun h => by have := sub_prev S t p h1 h.1 h4; omega)])
  have e2 : wyT bs N K zs e S t = if fre bs N zs (K - (e + 1)) t = true then wyW bs N K zs e (S ^^^ t) else 0 := by
    unfold wyT
    by_cases hf : fre bs N zs (K - (e + 1)) t = true
    · rw [if_pos ⟨h1, hf⟩, if_pos hf]
    · rw [if_neg (fun h => hf h.2), if_neg hf]
  rw [sm, e2, e1] at h2
  omega
theorem WyI.le {bs : List Nat} {N K : Nat} {zs : List Int} {e S t v : Nat} (hN : N ≤ 12) (hK : K ≤ 4) (he : e + 2 ≤ K) (h : WyI bs N K zs e S t v) : v ≤ 562949953421312 := by
  have h1 := wy_le (bs := bs) (N := N) (K := K) (zs := zs) (e + 1) S (by omega)
  have h2 := wy_le (bs := bs) (N := N) (K := K) (zs := zs) e S (by omega)
  have h3 : ∀ i, i ≤ 4 → (2 ^ N) ^ i ≤ 281474976710656 := fun i hi => by
    have a1 : 2 ^ N ≤ 2 ^ 12 := Nat.pow_le_pow_right (by decide) hN
    have a2 : (2 ^ N) ^ i ≤ (2 ^ 12) ^ i := Nat.pow_le_pow_left a1 i
    have a3 : (2 ^ 12) ^ i ≤ (2 ^ 12) ^ 4 := Nat.pow_le_pow_right (by decide) hi
    exact Nat.le_trans a2 (Nat.le_trans a3 (by decide))
  have := h3 (e + 1) (by omega)
  have := h3 e (by omega)
  have := h.2
  omega
theorem wy_bd {bs : List Nat} {N K : Nat} {zs : List Int} {e S : Nat} (hN : N ≤ 12) (hK : K ≤ 4) (he : e + 1 ≤ K) : wyW bs N K zs e S ≤ 281474976710656 := by
  have h1 := wy_le (bs := bs) (N := N) (K := K) (zs := zs) e S he
  have a1 : 2 ^ N ≤ 2 ^ 12 := Nat.pow_le_pow_right (by decide) hN
  have a2 : (2 ^ N) ^ e ≤ (2 ^ 12) ^ e := Nat.pow_le_pow_left a1 e
  have a3 : (2 ^ 12) ^ e ≤ (2 ^ 12) ^ 4 := Nat.pow_le_pow_right (by decide) (by omega)
  exact Nat.le_trans h1 (Nat.le_trans a2 (Nat.le_trans a3 (by decide)))
end Go.Proofs.YtckffliiidgilaaDoor
