/- Neighbours as lists and as digits in base 2. -/
import Derived.Test.YtpjegmmichjlbaaOwn
import Derived.Test.YtpjegmmichjlbaaColourOf
namespace Go.Proofs.Ytpjegmmichjlbaa
set_option linter.unusedVariables false
set_option linter.unusedSimpArgs false
open Go Go.RowKit
/-- Is the point j a neighbour of i in the colour c? -/
def nbB (bs : List Nat) (i c : Int) (j : Nat) : Bool := decide ((j : Int) ≠ i) && decide (colAt bs i j = c)
def nbK (p : Nat → Bool) : Nat → List Int
  | 0 => []
  | k + 1 => if p k then nbK p k ++ [(k : Int)] else nbK p k
def arK (p : Nat → Bool) : Nat → Nat
  | 0 => 0
  | k + 1 => if p k then arK p k ||| 2 ^ k else arK p k
theorem nbK_len (p : Nat → Bool) : ∀ k, (nbK p k).length ≤ k
  | 0 => by simp [nbK]
  | k + 1 => by
    have := nbK_len p k
    unfold nbK
    split
    · simp; omega
    · omega
theorem nbK_congr {p q : Nat → Bool} : ∀ (k : Nat), (∀ j, j < k → p j = q j) → nbK p k = nbK q k
  | 0, _ => rfl
  | k + 1, h => by
    unfold nbK
    rw [h k (by omega), nbK_congr k (fun j hj => h j (by omega))]
theorem nbK_more {p : Nat → Bool} {m : Nat} (h : ∀ j, m ≤ j → p j = false) : ∀ (d : Nat), nbK p (m + d) = nbK p m
  | 0 => rfl
  | d + 1 => by
    rw [← Nat.add_assoc, nbK, h (m + d) (by omega)]
    exact nbK_more h d
theorem arK_lt (p : Nat → Bool) : ∀ k, arK p k < 2 ^ k
  | 0 => by simp [arK]
  | k + 1 => by
    have h := arK_lt p k
    have h2 : 2 ^ k < 2 ^ (k + 1) := Nat.pow_lt_pow_right (by omega) (by omega)
    unfold arK
    split
    · exact Nat.or_lt_two_pow (by omega) h2
    · omega
theorem arK_bit (p : Nat → Bool) : ∀ k j, (arK p k).testBit j = (decide (j < k) && p j)
  | 0, j => by simp [arK]
  | k + 1, j => by
    have ih := arK_bit p k j
    unfold arK
    by_cases h : p k = true
    · rw [if_pos h, Nat.testBit_or, ih, Nat.testBit_two_pow]
      by_cases e : k = j
      · subst e; simp [h]
      · by_cases l : j < k
        · simp [l, e, show j < k + 1 by omega]
        · simp [l, e, show ¬ j < k + 1 by omega]
    · rw [if_neg h, ih]
      by_cases e : k = j
      · subst e; simp [h]
      · by_cases l : j < k
        · simp [l, show j < k + 1 by omega]
        · simp [l, show ¬ j < k + 1 by omega]
theorem ofInt_i64 (a : Nat) (ha : a < 18446744073709551616) : (BitVec.ofInt 64 (a : Int)).toNat = a := by
  rw [BitVec.ofInt_natCast, BitVec.toNat_ofNat]; exact Nat.mod_eq_of_lt (by omega)
theorem i64_or_nat (a b : Nat) (ha : a < 4611686018427387904) (hb : b < 4611686018427387904) : bits .or .i64 (a : Int) (b : Int) = ((a ||| b : Nat) : Int) := by
  have hx : a ||| b < 2 ^ 62 := Nat.or_lt_two_pow (by omega) (by omega)
  show IntKind.i64.wrap ((BitVec.ofInt 64 (a : Int) ||| BitVec.ofInt 64 (b : Int)).toNat : Int) = _
  rw [BitVec.toNat_or, ofInt_i64 a (by omega), ofInt_i64 b (by omega)]
  exact IntWalk.i64_in _ (by omega)
theorem i64_and_nat (a b : Nat) (ha : a < 4611686018427387904) (hb : b < 4611686018427387904) : bits .and .i64 (a : Int) (b : Int) = ((a &&& b : Nat) : Int) := by
  have hx : a &&& b < 2 ^ 62 := Nat.and_lt_two_pow _ (by omega)
  show IntKind.i64.wrap ((BitVec.ofInt 64 (a : Int) &&& BitVec.ofInt 64 (b : Int)).toNat : Int) = _
  rw [BitVec.toNat_and, ofInt_i64 a (by omega), ofInt_i64 b (by omega)]
  exact IntWalk.i64_in _ (by omega)
/-- The test of a digit as the walk shows it. -/
theorem bit_test (S j : Nat) (hS : S < 4611686018427387904) : (bits .and .i64 ((S : Int) / 2 ^ j) 1 == 1) = S.testBit j := by
  have e : ((S : Int) / 2 ^ j) = ((S / 2 ^ j : Nat) : Int) := by simp
  have hlt : S / 2 ^ j < 4611686018427387904 := Nat.lt_of_le_of_lt (Nat.div_le_self _ _) hS
  rw [e]
  have := i64_and_nat (S / 2 ^ j) 1 hlt (by omega)
  simp only [Nat.and_one_is_mod] at this
  rw [show ((1 : Nat) : Int) = 1 from rfl] at this
  rw [this, Nat.testBit_eq_decide_div_mod_eq]
  rw [Bool.eq_iff_iff]
  simp only [beq_iff_eq, decide_eq_true_eq]
  omega
theorem one_new (w : World) (x : Value) (t : TypeId) : ∀ j u, [x][j]? = some u → (w.alloc (.cells #[x] t)).cell? ((⟨w.heap.size, 0, none⟩ : Addr).add j) = some u := by
  intro j u hj
  rw [Addr.add_mid]
  cases j with
  | zero => exact (Blk.new w #[x] t _ rfl).cell (by simpa using hj)
  | succ j => simp at hj
def RelPts (p : Nat → Bool) (w : World) (j : Nat) (v : Value) (wr : World) : Prop := wr.ownsRow w.heap.size 2 1 v (nbK p j).length (icells (nbK p j)) ∧ Below w.heap.size w wr
theorem icells_app (a b : List Int) : icells (a ++ b) = icells a ++ icells b := by simp [icells]
set_option maxRecDepth 100000 in
set_option maxHeartbeats 400000 in
theorem points62 (p : Nat → Bool) (S : Nat) (w : World) (hS : S < 4611686018427387904) (hp : ∀ j, S.testBit j = p j) :
    Calls Try.prog 60 #[.int .i64 (S : Int)] w fun e w' => ∃ v, e = .returned v ∧ w'.ownsRow w.heap.size 2 1 v (nbK p 62).length (icells (nbK p 62)) ∧ Below w.heap.size w w' := by
  obtain ⟨i0, hi, hz0, hz1, hz2⟩ := info_parts info2
  have HP := hidd hp
  have HI := hidd (And.intro hi (And.intro hz0 (And.intro hz1 hz2)))
  clear hp hi hz0 hz1 hz2
  go_enter Try.func60, Try.ntmps60
  go_wp2_with fail
  go_loopw [3, 4] (fun v i wr => ∃ j : Nat, j ≤ 62 ∧ i = .int .i64 j ∧ RelPts p w j v wr) (fun _ i _ => 62 - (intOf i).toNat)
  case atStart =>
    refine ⟨0, by omega, rfl, ⟨rfl, .inr ⟨w.heap.size, 0, #[], rfl, Nat.le_refl _, heap_alloc_new w _, ?_, ?_, rfl, rfl⟩⟩, (Below.refl _ _).alloc (Nat.le_refl _) _⟩
    · simp [nbK]
    · simp [maxLen]
  case round =>
    obtain ⟨j, hj, rfl, HR⟩ := hrel
    by_cases hlt : j < 62
    · have hbt := bit_test S j hS
      rw [HP.out j] at hbt
      cases hpj : p j with
      | true =>
        rw [hpj] at hbt
        have hlen := nbK_len p j
        have HH := hidd (show nbK p (j + 1) = nbK p j ++ [(j : Int)] by rw [nbK, if_pos hpj])
        have hown := HR.1
        have HB := hidd HR.2
        clear HR hpj
        have hsz := HB.out.size
        go_wp2_with (at_builtin; refine wpList_append_own _ rfl _ _ 38 rfl w.heap.size 2 i0 (.int .i64 0) 1 8 Try.underlying38 HI.out.1 HI.out.2.1 HI.out.2.2.1 HI.out.2.2.2 rfl (by decide) _ _ _ rfl (hown.alloc _) ⟨wr.heap.size, 0, none⟩ 1 1 [.int .i64 (j : Int)] rfl rfl ?c1 ?c2 ?c3 ?c4 ?c5 ?_)
        case c1 => exact one_new _ _ _
        case c2 => intro u hu; simp at hu; subst hu; rfl
        case c3 => unfold maxLen; omega
        case c4 => omega
        case c5 => simp; omega
        intro v' w1 hown' hgrow _
        have K := hidd (show RelPts p w (j + 1) v' w1 from ⟨by rw [HH.out, icells_app, List.length_append]; exact hown', (HB.out.alloc hsz _).grown hgrow (by simp; omega) (fun g hg => by
          rcases hown.2 with ⟨h1, _⟩ | ⟨g', cap', cur', h1, h2, _⟩
          · rw [h1] at hg; cases hg
          · rw [h1] at hg; cases hg; exact h2)⟩)
        clear hown' hgrow hown
        go_wp2
        go_roundw
        case rel => exact ⟨j + 1, by omega, by go_num, K.out⟩
        case measure => simp [intOf]; omega
      | false =>
        rw [hpj] at hbt
        have HH := hidd (show nbK p (j + 1) = nbK p j by rw [nbK, hpj]; rfl)
        have HB := hidd HR
        clear HR hpj
        go_wp2_with fail
        go_roundw
        case rel => exact ⟨j + 1, by omega, by go_num, by rw [RelPts, HH.out]; exact HB.out⟩
        case measure => simp [intOf]; omega
    · have hje : j = 62 := by omega
      subst hje
      go_wp2_with fail
      go_ret
      exact ⟨_, rfl, HR.1, HR.2⟩
end Go.Proofs.Ytpjegmmichjlbaa
