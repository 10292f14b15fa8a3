/- Sets of points as digits; what a clique is. -/
import Derived.Test.YtpjegmmichjlbaaTakeIm
namespace Go.Proofs.Ytpjegmmichjlbaa
set_option linter.unusedVariables false
set_option linter.unusedSimpArgs false
open Go Go.RowKit
theorem set_pair {zs : List Int} {n : Int} (h : setB zs n = true) : zs.Pairwise (· < ·) := by
  rw [List.pairwise_iff_getElem]
  intro i j hi hj hij
  have := set_up h (i := i) (j - i) (by omega)
  rw [show i + (j - i) = j by omega] at this
  simp only [List.getD, List.getElem?_eq_getElem hi, List.getElem?_eq_getElem hj, Option.getD_some] at this
  omega
theorem filter_step (m : Int) : ∀ (zs : List Int), zs.Pairwise (· < ·) → zs.filter (fun z => decide (z < m + 1)) = zs.filter (fun z => decide (z < m)) ++ (if m ∈ zs then [m] else [])
  | [], _ => by simp
  | x :: xs, h => by
    obtain ⟨hx, hxs⟩ := List.pairwise_cons.1 h
    have ih := filter_step m xs hxs
    have hno : ∀ y, m ≤ y → (∀ z ∈ xs, y < z) → xs.filter (fun z => decide (z < m + 1)) = [] ∧ m ∉ xs := fun y hy hall => by
      refine ⟨List.filter_eq_nil_iff.2 fun z hz => ?_, fun hm => ?_⟩
      · have := hall z hz; simp; omega
      · have := hall m hm; omega
    by_cases h1 : x < m
    · rw [List.filter_cons_of_pos (by simp; omega), List.filter_cons_of_pos (by simpa using h1), ih, List.cons_append]
      have : (m ∈ x :: xs) ↔ m ∈ xs := by simp; omega
      by_cases hm : m ∈ xs
      · rw [if_pos hm, if_pos (this.2 hm)]
      · rw [if_neg hm, if_neg (fun e => hm (this.1 e))]
    · obtain ⟨e1, e2⟩ := hno x (by omega) hx
      have e3 : xs.filter (fun z => decide (z < m)) = [] := List.filter_eq_nil_iff.2 fun z hz => by have := hx z hz; simp; omega
      by_cases h2 : x = m
      · subst h2
        rw [List.filter_cons_of_pos (by simp; omega), List.filter_cons_of_neg (by simp), e1, e3, if_pos (by simp)]
        rfl
      · rw [List.filter_cons_of_neg (by simp; omega), List.filter_cons_of_neg (by simpa using h1), e1, e3, if_neg (by simp [e2]; omega)]
        rfl
def memB (zs : List Int) (j : Nat) : Bool := decide ((j : Int) ∈ zs)
theorem nbK_filter {zs : List Int} (h : zs.Pairwise (· < ·)) (h0 : ∀ z ∈ zs, 0 ≤ z) : ∀ m : Nat, nbK (memB zs) m = zs.filter (fun z => decide (z < (m : Int)))
  | 0 => by
    rw [nbK]
    exact (List.filter_eq_nil_iff.2 fun z hz => by have := h0 z hz; simp; omega).symm
  | m + 1 => by
    have ih := nbK_filter h h0 m
    rw [show ((m + 1 : Nat) : Int) = (m : Int) + 1 by omega, filter_step (m : Int) zs h, nbK, ih]
    by_cases hm : (m : Int) ∈ zs
    · rw [if_pos (by simpa [memB] using hm), if_pos hm]
    · rw [if_neg (by simpa [memB] using hm), if_neg hm, List.append_nil]
theorem set_mem {zs : List Int} {n : Int} (h : setB zs n = true) {z : Int} (hz : z ∈ zs) : 0 ≤ z ∧ z < n := by
  obtain ⟨i, hi, rfl⟩ := List.getElem_of_mem hz
  have := (set_get h).1 i hi
  simpa [List.getD, List.getElem?_eq_getElem hi] using this
theorem nbK_set_eq {zs : List Int} {n : Int} (h : setB zs n = true) {m : Nat} (hn : n ≤ (m : Int)) : nbK (memB zs) m = zs := by
  rw [nbK_filter (set_pair h) (fun z hz => (set_mem h hz).1)]
  exact List.filter_eq_self.2 fun z hz => by have := set_mem h hz; simp; omega
/-- The digits of the first points of a list. -/
def bitsK (zs : List Int) : Nat → Nat
  | 0 => 0
  | m + 1 => bitsK zs m ||| 2 ^ (zs.getD m 0).toNat
theorem bitsK_lt {zs : List Int} {n : Int} (h : setB zs n = true) (hn : n ≤ 17) : ∀ m, m ≤ zs.length → bitsK zs m < 2 ^ 17
  | 0, _ => by simp [bitsK]
  | m + 1, hm => by
    have := (set_get h).1 m (by omega)
    rw [bitsK]
    exact Nat.or_lt_two_pow (bitsK_lt h hn m (by omega)) (Nat.pow_lt_pow_right (by omega) (by omega))
theorem bitsK_bit {zs : List Int} {n : Int} (h : setB zs n = true) (j : Nat) : ∀ m, m ≤ zs.length → (bitsK zs m).testBit j = memB (zs.take m) j
  | 0, _ => by simp [bitsK, memB]
  | m + 1, hm => by
    have hb := (set_get h).1 m (by omega)
    have ih := bitsK_bit h j m (by omega)
    rw [bitsK, Nat.testBit_or, ih, Nat.testBit_two_pow]
    have hg : zs.getD m 0 = zs[m]'(by omega) := by simp [List.getD, List.getElem?_eq_getElem (show m < zs.length by omega)]
    rw [hg] at hb
    rw [hg, List.take_succ_eq_append_getElem (by omega)]
    simp only [memB, List.mem_append, List.mem_singleton]
    by_cases h1 : (j : Int) ∈ zs.take m
    · simp [h1]
    · by_cases h2 : (j : Int) = zs[m]'(by omega)
      · simp [h2, show (zs[m]'(by omega)).toNat = j by omega]
      · simp [h1, h2, show ¬ (zs[m]'(by omega)).toNat = j by omega]
set_option maxRecDepth 100000 in
set_option maxHeartbeats 1000000 in
theorem bits59 (zs : List Int) (a : Option Addr) (cap : Nat) (n : Int) (w : World) (hs : SlI w a zs) (h : setB zs n = true) (hn0 : 0 ≤ n) (hn : n ≤ 17) :
    Calls Try.prog 59 #[.slice a zs.length cap] w fun e w' => e = .returned (.int .i64 (bitsK zs zs.length : Nat)) ∧ w = w' := by
  have hlen := set_len h (by omega)
  have HSET := hidd h
  have HSL := hidd hs
  have HBL := hidd (bitsK_lt h hn)
  clear h hs
  go_enter Try.func59, Try.ntmps59
  go_wp2_with fail
  go_loopw [3, 4] (fun s e wr => ∃ j : Nat, j ≤ zs.length ∧ e = .int .i64 j ∧ s = .int .i64 (bitsK zs j : Nat) ∧ wr = w) (fun _ e _ => zs.length - (intOf e).toNat)
  case atStart => exact ⟨0, by omega, rfl, rfl, by trivial⟩
  case round =>
    obtain ⟨j, hj, rfl, rfl, rfl⟩ := hrel
    by_cases hlt : j < zs.length
    · rcases HSL.out with hz | ⟨b, off, ha, hc⟩
      · subst hz; simp at hlt
      · subst ha
        have hcj := hc j hlt
        obtain ⟨z0, z1⟩ := (set_get HSET.out).1 j hlt
        obtain ⟨z, hz⟩ := Int.eq_ofNat_of_zero_le z0
        rw [hz] at hcj z0 z1
        obtain ⟨A, hA⟩ : ∃ A, A = bitsK zs j := ⟨_, rfl⟩
        have hAlt : A < 2 ^ 17 := by rw [hA]; exact HBL.out j hj
        have HH := hidd (show bitsK zs (j + 1) = A ||| 2 ^ z by rw [bitsK, hA, hz]; rfl)
        have HOR := hidd (or_bit A z hAlt (by omega))
        rw [← hA]
        clear hc hA hz
        go_wp2_with fail
        go_roundw
        case rel => exact ⟨j + 1, by omega, by go_num, by rw [HOR.out, HH.out], by trivial⟩
        case measure => simp [intOf]; omega
    · have hje : j = zs.length := by omega
      subst hje
      go_wp2_with fail
      go_ret
      exact ⟨rfl, rfl⟩
end Go.Proofs.Ytpjegmmichjlbaa
