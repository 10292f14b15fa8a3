/- Neighbours as lists and as digits in base 2. -/
import Derived.Test.YtikcmgmgdbbcfaaOwn
import Derived.Test.YtikcmgmgdbbcfaaColourOf
namespace Go.Proofs.Ytikcmgmgdbbcfaa
set_option linter.unusedVariables false
set_option linter.unusedSimpArgs false
open Go Go.RowKit
/-- Is the point j a neighbour of i in the colour c? -/
def nbB (bs : List Nat) (i c : Int) (j : Nat) : Bool := decide ((j : Int) ≠ i) && decide (colAt bs i j = c)
def nbK (p : Nat → Bool) : Nat → List Int
  | 0 => []
  | k + 1 => if p k then nbK p k ++ [(k : Int)] else nbK p k
def arK (p : Nat → Bool) : Nat → Nat
  | 0 => 0
  | k + 1 => if p k then arK p k ||| 2 ^ k else arK p k
theorem nbK_len (p : Nat → Bool) : ∀ k, (nbK p k).length ≤ k
  | 0 => by simp [nbK]
  | k + 1 => by
    have := nbK_len p k
    unfold nbK
    split
    · simp; omega
    · omega
theorem nbK_congr {p q : Nat → Bool} : ∀ (k : Nat), (∀ j, j < k → p j = q j) → nbK p k = nbK q k
  | 0, _ => rfl
  | k + 1, h => by
    unfold nbK
    rw [h k (by omega), nbK_congr k (fun j hj => h j (by omega))]
theorem nbK_more {p : Nat → Bool} {m : Nat} (h : ∀ j, m ≤ j → p j = false) : ∀ (d : Nat), nbK p (m + d) = nbK p m
  | 0 => rfl
  | d + 1 => by
    rw [← Nat.add_assoc, nbK, h (m + d) (by omega)]
    exact nbK_more h d
theorem arK_lt (p : Nat → Bool) : ∀ k, arK p k < 2 ^ k
  | 0 => by simp [arK]
  | k + 1 => by
    have h := arK_lt p k
    have h2 : 2 ^ k < 2 ^ (k + 1) := Nat.pow_lt_pow_right (by omega) (by omega)
    unfold arK
    split
    · exact Nat.or_lt_two_pow (by omega) h2
    · omega
theorem arK_bit (p : Nat → Bool) : ∀ k j, (arK p k).testBit j = (decide (j < k) && p j)
  | 0, j => by simp [arK]
  | k + 1, j => by
    have ih := arK_bit p k j
    unfold arK
    by_cases h : p k = true
    · rw [if_pos h, Nat.testBit_or, ih, Nat.testBit_two_pow]
      by_cases e : k = j
      · subst e; simp [h]
      · by_cases l : j < k
        · simp [l, e, show j < k + 1 by omega]
        · simp [l, e, show ¬ j < k + 1 by omega]
    · rw [if_neg h, ih]
      by_cases e : k = j
      · subst e; simp [h]
      · by_cases l : j < k
        · simp [l, show j < k + 1 by omega]
        · simp [l, show ¬ j < k + 1 by omega]
theorem ofInt_i64 (a : Nat) (ha : a < 18446744073709551616) : (BitVec.ofInt 64 (a : Int)).toNat = a := by
  rw [BitVec.ofInt_natCast, BitVec.toNat_ofNat]; exact Nat.mod_eq_of_lt (by omega)
theorem i64_or_nat (a b : Nat) (ha : a < 4611686018427387904) (hb : b < 4611686018427387904) : bits .or .i64 (a : Int) (b : Int) = ((a ||| b : Nat) : Int) := by
  have hx : a ||| b < 2 ^ 62 := Nat.or_lt_two_pow (by omega) (by omega)
  show IntKind.i64.wrap ((BitVec.ofInt 64 (a : Int) ||| BitVec.ofInt 64 (b : Int)).toNat : Int) = _
  rw [BitVec.toNat_or, ofInt_i64 a (by omega), ofInt_i64 b (by omega)]
  exact IntWalk.i64_in _ (by omega)
theorem i64_and_nat (a b : Nat) (ha : a < 4611686018427387904) (hb : b < 4611686018427387904) : bits .and .i64 (a : Int) (b : Int) = ((a &&& b : Nat) : Int) := by
  have hx : a &&& b < 2 ^ 62 := Nat.and_lt_two_pow _ (by omega)
  show IntKind.i64.wrap ((BitVec.ofInt 64 (a : Int) &&& BitVec.ofInt 64 (b : Int)).toNat : Int) = _
  rw [BitVec.toNat_and, ofInt_i64 a (by omega), ofInt_i64 b (by omega)]
  exact IntWalk.i64_in _ (by omega)
/-- The test of a digit as the walk shows it. -/
theorem bit_test (S j : Nat) (hS : S < 4611686018427387904) : (bits .and .i64 ((S : Int) / 2 ^ j) 1 == 1) = S.testBit j := by
  have e : ((S : Int) / 2 ^ j) = ((S / 2 ^ j : Nat) : Int) := by simp
  have hlt : S / 2 ^ j < 4611686018427387904 := Nat.lt_of_le_of_lt (Nat.div_le_self _ _) hS
  rw [e]
  have := i64_and_nat (S / 2 ^ j) 1 hlt (by omega)
  simp only [Nat.and_one_is_mod] at this
  rw [show ((1 : Nat) : Int) = 1 from rfl] at this
  rw [this, Nat.testBit_eq_decide_div_mod_eq]
  rw [Bool.eq_iff_iff]
  simp only [beq_iff_eq, decide_eq_true_eq]
  omega
theorem one_new (w : World) (x : Value) (t : TypeId) : ∀ j u, [x][j]? = some u → (w.alloc (.cells #[x] t)).cell? ((⟨w.heap.size, 0, none⟩ : Addr).add j) = some u := by
  intro j u hj
  rw [Addr.add_mid]
  cases j with
  | zero => exact (Blk.new w #[x] t _ rfl).cell (by simpa using hj)
  | succ j => simp at hj
def RelPts (p : Nat → Bool) (w : World) (j : Nat) (v : Value) (wr : World) : Prop := wr.ownsRow w.heap.size 2 1 v (nbK p j).length (icells (nbK p j)) ∧ Below w.heap.size w wr
theorem icells_app (a b : List Int) : icells (a ++ b) = icells a ++ icells b := by simp [icells]
end Go.Proofs.Ytikcmgmgdbbcfaa
