/- Steps: the greater neighbours of each point, as lists. Nothing of the program. -/
import Derived.Test.YtmeihpakbhfipaaDoorAbv
namespace Go.Proofs.YtmeihpakbhfipaaDoor
set_option linter.unusedVariables false
set_option linter.unusedSimpArgs false
open Go Go.RowKit Go.Shelf
/-- q is a greater neighbour of p. -/
def upP (bs : List Nat) (c : Int) (p q : Nat) : Bool := decide (p < q) && decide (colAt bs p q = c)
/-- The greater neighbours of p, ascending. -/
def upR (bs : List Nat) (c : Int) (N p : Nat) : List Int := nbK (upP bs c p) N
/-- The rows of the first j points, one behind the other. -/
def upF (bs : List Nat) (c : Int) (N : Nat) : Nat → List Int
  | 0 => []
  | j + 1 => upF bs c N j ++ upR bs c N j
theorem nbK_up_len (bs : List Nat) (c : Int) (p : Nat) : ∀ k, (nbK (upP bs c p) k).length ≤ k - (p + 1)
  | 0 => by simp [nbK]
  | k + 1 => by
    have ih := nbK_up_len bs c p k
    rw [nbK]
    split
    · rename_i h
      have : p < k := by
        unfold upP at h
        rw [Bool.and_eq_true, decide_eq_true_iff] at h
        exact h.1
      rw [List.length_append, List.length_singleton]; omega
    · omega
theorem upR_len (bs : List Nat) (c : Int) (N p : Nat) : (upR bs c N p).length ≤ N - (p + 1) := nbK_up_len bs c p N
theorem upF_len (bs : List Nat) (c : Int) (N : Nat) : ∀ j, j ≤ N → (upF bs c N j).length + eN (N - j) ≤ eN N
  | 0, _ => by simp [upF]
  | j + 1, h => by
    have ih := upF_len bs c N j (by omega)
    have hr := upR_len bs c N j
    have e : eN (N - j) = eN (N - (j + 1)) + (N - (j + 1)) := by
      obtain ⟨m, hm⟩ : ∃ m, N - j = m + 1 := ⟨N - j - 1, by omega⟩
      rw [show N - (j + 1) = m by omega, hm]; rfl
    rw [upF, List.length_append]; omega
theorem rv_setD (X : Nat) : ∀ d, rv (setD X d) = nbK (fun q => X.testBit q) d
  | 0 => by simp [setD, nbK, rv]
  | d + 1 => by
    rw [setD, nbK]
    split
    · rw [rv_cons, rv_setD X d]
    · exact rv_setD X d
theorem row_set (bs : List Nat) (c : Int) {N p : Nat} (hp : p < N) (hN : N ≤ 17) : setL (nsF bs c (eseq N) p &&& adn (2 ^ N - 1) (2 ^ (p + 1) - 1)) = upR bs c N p := by
  unfold setL upR
  rw [rv_setD]
  have hb : ∀ q, (nsF bs c (eseq N) p &&& adn (2 ^ N - 1) (2 ^ (p + 1) - 1)).testBit q = (decide (q < N) && upP bs c p q) := by
    intro q
    have h32 : 2 ^ N - 1 < 2 ^ 32 := Nat.lt_of_lt_of_le (pow_lt17 hN) (by decide)
    rw [Nat.testBit_and, nsF_rw bs c hp hN, adn_bit h32, Nat.testBit_two_pow_sub_one, Nat.testBit_two_pow_sub_one]
    unfold rwN
    rw [arK_bit]
    unfold upP nbB
    by_cases h1 : q < N
    · by_cases h2 : p < q
      · simp [h1, h2, show ¬ q < p + 1 by omega, show (q : Int) ≠ (p : Int) by omega]
      · simp [h1, h2, show q < p + 1 by omega]
    · simp [h1]
  rw [nbK_congr 17 (fun q _ => hb q)]
  have := nbK_more (p := fun q => decide (q < N) && upP bs c p q) (m := N) (fun j hj => by simp; omega) (17 - N)
  rw [show N + (17 - N) = 17 by omega] at this
  rw [this]
  exact nbK_congr N (fun j hj => by simp [hj])
/-- What lies on a row. -/
theorem nbK_mem (p : Nat → Bool) : ∀ k (z : Int), z ∈ nbK p k ↔ ∃ q : Nat, z = (q : Int) ∧ q < k ∧ p q = true
  | 0, z => by simp [nbK]
  | k + 1, z => by
    have ih := nbK_mem p k z
    rw [nbK]
    constructor
    · intro h
      split at h
      · rename_i hk
        rcases List.mem_append.1 h with h | h
        · obtain ⟨q, h1, h2, h3⟩ := ih.1 h; exact ⟨q, h1, by omega, h3⟩
        · exact ⟨k, by simpa using h, by omega, hk⟩
      · obtain ⟨q, h1, h2, h3⟩ := ih.1 h; exact ⟨q, h1, by omega, h3⟩
    · rintro ⟨q, h1, h2, h3⟩
      by_cases e : q = k
      · subst e
        rw [if_pos h3]
        exact List.mem_append_right _ (by simp [h1])
      · have := ih.2 ⟨q, h1, by omega, h3⟩
        split
        · exact List.mem_append_left _ this
        · exact this
theorem upR_mem {bs : List Nat} {c : Int} {N p : Nat} {z : Int} : z ∈ upR bs c N p ↔ ∃ q : Nat, z = (q : Int) ∧ p < q ∧ q < N ∧ colAt bs p q = c := by
  unfold upR
  rw [nbK_mem]
  constructor
  · rintro ⟨q, h1, h2, h3⟩
    unfold upP at h3
    rw [Bool.and_eq_true, decide_eq_true_iff, decide_eq_true_iff] at h3
    exact ⟨q, h1, h3.1, h2, h3.2⟩
  · rintro ⟨q, h1, h2, h3, h4⟩
    exact ⟨q, h1, h3, by unfold upP; simp [h2, h4]⟩
theorem upR_get {bs : List Nat} {c : Int} {N p m : Nat} (h : m < (upR bs c N p).length) : ∃ q : Nat, (upR bs c N p).getD m 0 = (q : Int) ∧ p < q ∧ q < N ∧ colAt bs p q = c := by
  have : (upR bs c N p).getD m 0 ∈ upR bs c N p := by
    simp only [List.getD, List.getElem?_eq_getElem h, Option.getD_some]
    exact List.getElem_mem h
  exact upR_mem.1 this
/-- The colour is closed. -/
def clB (bs : List Nat) (c : Int) (N : Nat) : Bool := decide (∀ l, l < N → ∀ j, j < l → ∀ i, i < j → colAt bs (i : Int) (j : Int) = c → colAt bs (j : Int) (l : Int) = c → colAt bs (i : Int) (l : Int) = c)
/-- What the rows of p and of z say: z's numbers lie on p's row, too. -/
def ClP (bs : List Nat) (c : Int) (N p : Nat) : Prop := ∀ z ∈ upR bs c N p, ∀ y ∈ upR bs c N z.toNat, y ∈ upR bs c N p
theorem clB_yes {bs : List Nat} {c : Int} {N : Nat} (h : ∀ p, p < N → ClP bs c N p) : clB bs c N = true := by
  unfold clB
  rw [decide_eq_true_iff]
  intro l hl j hj i hi h1 h2
  have hz : ((j : Nat) : Int) ∈ upR bs c N i := upR_mem.2 ⟨j, rfl, hi, by omega, h1⟩
  have hy := h i (by omega) _ hz (l : Int) (by rw [Int.toNat_natCast]; exact upR_mem.2 ⟨l, rfl, hj, hl, h2⟩)
  obtain ⟨q, e, _, _, h3⟩ := upR_mem.1 hy
  have : q = l := by omega
  subst this; exact h3
theorem clB_no {bs : List Nat} {c : Int} {N p q r : Nat} (hr : r < N) (h1 : p < q) (h2 : q < r) (c1 : colAt bs p q = c) (c2 : colAt bs q r = c) (c3 : colAt bs p r ≠ c) : clB bs c N = false := by
  unfold clB
  rw [decide_eq_false_iff_not]
  exact fun h => c3 (h r hr q h2 p h1 c1 c2)
/-- Where each row lies: in the block h, from a place on. -/
def RowAt (w : World) (a : Option Addr) (zs : List Int) : Prop := SlI w a zs
/-- The rows of steps, in a block of slices. -/
def RowsI (w : World) (C : Array Value) (rows : Nat → List Int) (N : Nat) : Prop := C.size = N ∧ ∀ p, p < N → ∃ a cap, C[p]? = some (.slice a (rows p).length cap) ∧ SlI w a (rows p)
/-- Steps: a slice of N rows. -/
def StI (w : World) (g : Nat) (rows : Nat → List Int) (N : Nat) : Prop := ∃ C, Blk w g C 25 ∧ RowsI w C rows N
theorem StI.below {w w' : World} {g : Nat} {rows : Nat → List Int} {N : Nat} (h : StI w g rows N) (hb : Below w.heap.size w w') : StI w' g rows N := by
  obtain ⟨C, h1, h2, h3⟩ := h
  exact ⟨C, h1.below hb h1.lt, h2, fun p hp => by
    obtain ⟨a, cap, e, hs⟩ := h3 p hp
    exact ⟨a, cap, e, hs.below hb (Nat.le_refl _)⟩⟩
end Go.Proofs.YtmeihpakbhfipaaDoor
