/- Any set of points: its list; a graph's contract, whole. -/
import Derived.Test.YtkiocedhibeieaaDoorGra
namespace Go.Proofs.YtkiocedhibeieaaDoor
set_option linter.unusedVariables false
set_option linter.unusedSimpArgs false
open Go Go.RowKit Go.Shelf
/-- The points of a set, descending. -/
def setD (X : Nat) : Nat → List Nat
  | 0 => []
  | d + 1 => if X.testBit d then d :: setD X d else setD X d
theorem setD_mem {X : Nat} : ∀ {d q : Nat}, q ∈ setD X d ↔ q < d ∧ X.testBit q = true
  | 0, q => by simp [setD]
  | d + 1, q => by
    rw [setD]
    by_cases h : X.testBit d = true
    · rw [if_pos h, List.mem_cons, setD_mem]
      constructor
      · rintro (rfl | ⟨h1, h2⟩)
        · exact ⟨by omega, h⟩
        · exact ⟨by omega, h2⟩
      · rintro ⟨h1, h2⟩
        by_cases e : q = d
        · exact .inl e
        · exact .inr ⟨by omega, h2⟩
    · rw [if_neg h, setD_mem]
      constructor
      · rintro ⟨h1, h2⟩; exact ⟨by omega, h2⟩
      · rintro ⟨h1, h2⟩
        refine ⟨?_, h2⟩
        by_cases e : q = d
        · subst e; exact absurd h2 h
        · omega
theorem setD_pw (X : Nat) : ∀ d, (setD X d).Pairwise (· > ·)
  | 0 => List.Pairwise.nil
  | d + 1 => by
    rw [setD]
    split
    · exact List.pairwise_cons.2 ⟨fun q hq => (setD_mem.1 hq).1, setD_pw X d⟩
    · exact setD_pw X d
theorem bitS_setD {X : Nat} (h : X < 2 ^ 17) : bitS (setD X 17) = X := by
  apply Nat.eq_of_testBit_eq
  intro j
  rw [bitS_bit]
  by_cases hj : j < 17
  · by_cases hb : X.testBit j = true
    · rw [hb, decide_eq_true (setD_mem.2 ⟨hj, hb⟩)]
    · rw [decide_eq_false (fun hm => hb (setD_mem.1 hm).2)]; simpa using hb
  · rw [decide_eq_false (fun hm => hj (setD_mem.1 hm).1)]
    exact (Nat.testBit_lt_two_pow (Nat.lt_of_lt_of_le h (Nat.pow_le_pow_right (by omega) (by omega)))).symm
/-- The points of a set, ascending. -/
def setL (X : Nat) : List Int := rv (setD X 17)
theorem setL_len {X : Nat} (h : X < 2 ^ 17) : (setL X).length = ones X := by
  unfold setL
  rw [rv_len, ← ones_bitS _ (setD_pw X 17), bitS_setD h]
theorem points47X (X : Nat) (hX : X < 2 ^ 17) (w : World) (hT : Tz w) (h0 : 0 < w.heap.size) :
    Calls Tryd.prog 47 #[.int .u32 (X : Int)] w fun e w' => ∃ a cap, e = .returned (.slice a (setL X).length cap) ∧ OwnL w' w.heap.size a (setL X) ∧ Below w.heap.size w w' := by
  have h := points47 (setD X 17) (setD_pw X 17) (fun q hq => (setD_mem.1 hq).1) w hT h0
  rw [bitS_setD hX] at h
  unfold setL
  rw [rv_len]
  exact h
theorem rv_full : ∀ (N d : Nat), N ≤ d → rv (setD (2 ^ N - 1) d) = (List.range N).map fun (x : Nat) => (x : Int)
  | N, 0, h => by
    obtain rfl : N = 0 := by omega
    rfl
  | N, d + 1, h => by
    rw [setD]
    by_cases e : N = d + 1
    · subst e
      rw [if_pos (by rw [Nat.testBit_two_pow_sub_one]; simp), rv_cons, List.range_succ, List.map_append]
      have h1 : setD (2 ^ (d + 1) - 1) d = setD (2 ^ d - 1) d := by
        have key : ∀ m, m ≤ d → setD (2 ^ (d + 1) - 1) m = setD (2 ^ d - 1) m := by
          intro m
          induction m with
          | zero => intro _; rfl
          | succ m ih =>
            intro hm
            rw [setD, setD, ih (by omega), Nat.testBit_two_pow_sub_one, Nat.testBit_two_pow_sub_one, decide_eq_true (show m < d + 1 by omega), decide_eq_true (show m < d by omega)]
        exact key d (Nat.le_refl _)
      rw [h1, rv_full d d (Nat.le_refl _)]; rfl
    · rw [if_neg (by rw [Nat.testBit_two_pow_sub_one]; simp; omega)]
      exact rv_full N d (by omega)
theorem setL_full {N : Nat} (h : N ≤ 17) : setL (2 ^ N - 1) = (List.range N).map fun (x : Nat) => (x : Int) := rv_full N 17 h
theorem pow_lt17 {N : Nat} (h : N ≤ 17) : 2 ^ N - 1 < 2 ^ 17 := by
  have : 2 ^ N ≤ 2 ^ 17 := Nat.pow_le_pow_right (by omega) h
  have : 1 ≤ 2 ^ N := Nat.one_le_two_pow
  omega
theorem given_cases {n k : Int} {bs : List Nat} {c : Int} (h : given n k bs c [] = 0) : isCol n k bs = true ∧ belowB c k = true := given_ok h
theorem graph63 (n k c : Int) (bs : List Nat) (hb : Bys bs) (w : World) :
    Calls Tryd.prog 63 #[.agg (ccells n k bs).toArray, .int .i64 c] w fun e w' => e = .returned (.tuple #[.agg (gcell (grA n k bs c) (grF n k bs c)).toArray, .int .i64 (given n k bs c [])]) ∧ Below w.heap.size w w' := by
  by_cases h0 : given n k bs c [] = 0
  · obtain ⟨hi, hc⟩ := given_cases h0
    obtain ⟨n1, n2, k1, k2⟩ := isCol_bd hi
    have e1 : grA n k bs c = 2 ^ n.toNat - 1 := if_pos h0
    have e2 : grF n k bs c = nsF bs c (eseq n.toNat) := if_pos h0
    rw [e1, e2, h0]
    obtain ⟨N, rfl⟩ := Int.eq_ofNat_of_zero_le (show 0 ≤ n by omega)
    rw [Int.toNat_natCast]
    exact graph63_0 N k c bs hb w (by omega) (by omega) hi hc
  · have e1 : grA n k bs c = 0 := if_neg h0
    have e2 : grF n k bs c = fun _ => 0 := if_neg h0
    rw [e1, e2]
    exact graph63_e n k c bs hb w h0
end Go.Proofs.YtkiocedhibeieaaDoor
