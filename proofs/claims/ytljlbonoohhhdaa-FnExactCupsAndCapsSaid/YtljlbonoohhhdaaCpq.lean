/- Cups and caps: numbers. Nothing of the program. -/
import Derived.Test.YtljlbonoohhhdaaItd
namespace Go.Proofs.Ytljlbonoohhhdaa
set_option linter.unusedVariables false
set_option linter.unusedSimpArgs false
open Go Go.RowKit Go.Shelf
/-- Greater than 0 if the slope from j to l is greater than that from i to j. -/
def bnd (X Y : Nat → Int) (i j l : Nat) : Int := (Y l - Y j) * (X j - X i) - (Y j - Y i) * (X l - X j)
theorem mulc_bd {a b A B : Int} (ha : -A ≤ a) (ha2 : a ≤ A) (hb : -B ≤ b) (hb2 : b ≤ B) (hA : 0 ≤ A) (hB : 0 ≤ B) : -(A * B) ≤ a * b ∧ a * b ≤ A * B := by
  have h1 : 0 ≤ (A - a) * (B + b) := Int.mul_nonneg (by omega) (by omega)
  have h2 : 0 ≤ (A + a) * (B - b) := Int.mul_nonneg (by omega) (by omega)
  have h3 : 0 ≤ (A - a) * (B - b) := Int.mul_nonneg (by omega) (by omega)
  have h4 : 0 ≤ (A + a) * (B + b) := Int.mul_nonneg (by omega) (by omega)
  simp only [Int.sub_mul, Int.mul_sub, Int.add_mul, Int.mul_add] at h1 h2 h3 h4
  omega
theorem dif_bd {a b : Int} (ha : -1000 ≤ a ∧ a ≤ 1000) (hb : -1000 ≤ b ∧ b ≤ 1000) : -2000 ≤ a - b ∧ a - b ≤ 2000 := by omega
theorem prd_bd {a b c d : Int} (ha : -1000 ≤ a ∧ a ≤ 1000) (hb : -1000 ≤ b ∧ b ≤ 1000) (hc : -1000 ≤ c ∧ c ≤ 1000) (hd : -1000 ≤ d ∧ d ≤ 1000) : -4000000 ≤ (a - b) * (c - d) ∧ (a - b) * (c - d) ≤ 4000000 := by
  have h1 := dif_bd ha hb
  have h2 := dif_bd hc hd
  have := mulc_bd (A := 2000) (B := 2000) h1.1 h1.2 h2.1 h2.2 (by omega) (by omega)
  omega
theorem bnd_bd {X Y : Nat → Int} {i j l : Nat} (hX : ∀ q, q = i ∨ q = j ∨ q = l → -1000 ≤ X q ∧ X q ≤ 1000) (hY : ∀ q, q = i ∨ q = j ∨ q = l → -1000 ≤ Y q ∧ Y q ≤ 1000) : -8000000 ≤ bnd X Y i j l ∧ bnd X Y i j l ≤ 8000000 := by
  have h1 := prd_bd (hY l (by simp)) (hY j (by simp)) (hX j (by simp)) (hX i (by simp))
  have h2 := prd_bd (hY j (by simp)) (hY i (by simp)) (hX l (by simp)) (hX j (by simp))
  unfold bnd
  omega
theorem bnd_neg (X Y : Nat → Int) (i j l : Nat) : bnd X (fun q => - Y q) i j l = - bnd X Y i j l := by
  unfold bnd
  simp only [Int.sub_mul, Int.mul_sub, Int.neg_mul]
  omega
/-- The greatest length by way of the first h points, where L has the lengths of the chains that end with h, i. -/
def cupK (B : Nat → Nat → Nat → Bool) (L : Nat → Int) (i j : Nat) : Nat → Int
  | 0 => 2
  | h + 1 => if B h i j = true then max (cupK B L i j h) (L h + 1) else cupK B L i j h
def cupF (B : Nat → Nat → Nat → Bool) : Nat → Nat → Nat → Int
  | 0 => fun _ _ => 2
  | f + 1 => fun i j => cupK B (fun h => cupF B f h i) i j i
/-- The greatest number of points of a chain that ends with i, j. -/
def cupV (B : Nat → Nat → Nat → Bool) (i j : Nat) : Int := cupF B i i j
theorem cupK_congr {B : Nat → Nat → Nat → Bool} {L M : Nat → Int} {i j : Nat} : ∀ k, (∀ h, h < k → L h = M h) → cupK B L i j k = cupK B M i j k
  | 0, _ => rfl
  | k + 1, h => by rw [cupK, cupK, cupK_congr k (fun h' hh => h h' (by omega)), h k (by omega)]
theorem cupF_more (B : Nat → Nat → Nat → Bool) : ∀ f i j, i ≤ f → cupF B (f + 1) i j = cupF B f i j
  | 0, i, j, h => by obtain rfl : i = 0 := by omega
                     rfl
  | f + 1, i, j, h => by
    rw [cupF, cupF]
    exact cupK_congr i fun h' hh => cupF_more B f h' i (by omega)
theorem cupF_eq (B : Nat → Nat → Nat → Bool) (i j : Nat) : ∀ d, cupF B (i + d) i j = cupV B i j
  | 0 => rfl
  | d + 1 => by rw [← Nat.add_assoc, cupF_more B (i + d) i j (by omega), cupF_eq B i j d]
theorem cupV_eq (B : Nat → Nat → Nat → Bool) (i j : Nat) : cupV B i j = cupK B (fun h => cupV B h i) i j i := by
  cases i with
  | zero => rfl
  | succ k =>
    unfold cupV
    rw [cupF]
    refine cupK_congr (k + 1) fun h hh => ?_
    have := cupF_eq B h (k + 1) (k - h)
    rw [show h + (k - h) = k by omega] at this
    exact this
theorem cupK_bd {B : Nat → Nat → Nat → Bool} {L : Nat → Int} {i j : Nat} : ∀ k, (∀ h, h < k → 2 ≤ L h ∧ L h ≤ h + 2) → 2 ≤ cupK B L i j k ∧ cupK B L i j k ≤ k + 2
  | 0, _ => by simp [cupK]
  | k + 1, h => by
    have ih := cupK_bd (B := B) (L := L) (i := i) (j := j) k (fun h' hh => h h' (by omega))
    have hk := h k (by omega)
    rw [cupK]
    split <;> omega
theorem cupF_bd (B : Nat → Nat → Nat → Bool) : ∀ f i j, 2 ≤ cupF B f i j ∧ cupF B f i j ≤ i + 2
  | 0, i, j => by simp only [cupF]; omega
  | f + 1, i, j => by
    rw [cupF]
    exact cupK_bd i fun h _ => cupF_bd B f h i
theorem cupV_bd (B : Nat → Nat → Nat → Bool) (i j : Nat) : 2 ≤ cupV B i j ∧ cupV B i j ≤ i + 2 := cupF_bd B i i j
/-- The greatest of b and the lengths of the chains that end with one of the first i points and j. -/
def cpI (V : Nat → Nat → Int) (j : Nat) (b : Int) : Nat → Int
  | 0 => b
  | i + 1 => max (cpI V j b i) (V i j)
/-- The greatest length among the first j points. -/
def cpJ (V : Nat → Nat → Int) : Nat → Int
  | 0 => 1
  | j + 1 => cpI V j (cpJ V j) j
def cpP (V : Nat → Nat → Int) (b : Int) (pre : List (Nat × Nat × Nat)) : Int := pre.foldl (fun a x => max a (V x.2.1 x.2.2)) b
theorem cpP_snoc (V : Nat → Nat → Int) (b : Int) (pre : List (Nat × Nat × Nat)) (x : Nat × Nat × Nat) : cpP V b (pre ++ [x]) = max (cpP V b pre) (V x.2.1 x.2.2) := by simp [cpP]
theorem cpP_row (V : Nat → Nat → Int) (h : Nat) (b : Int) : ∀ l, cpP V b (rowE h l) = cpI V h b l
  | 0 => rfl
  | l + 1 => by rw [rowE_succ, cpP_snoc, cpP_row V h b l, cpI]
/-- The order of the edges does the same. -/
theorem cpP_eseq (V : Nat → Nat → Int) : ∀ n, cpP V 1 (eseq n) = cpJ V n
  | 0 => rfl
  | n + 1 => by
    have h : cpP V 1 (eseq n ++ rowE n n) = cpP V (cpP V 1 (eseq n)) (rowE n n) := by unfold cpP; rw [List.foldl_append]
    rw [eseq, h, cpP_eseq V n, cpP_row, cpJ]
theorem cpI_bd {V : Nat → Nat → Int} {j : Nat} {b M : Int} (h1 : 1 ≤ b) (h2 : b ≤ M) : ∀ i, (∀ h, h < i → V h j ≤ M) → 1 ≤ cpI V j b i ∧ cpI V j b i ≤ M
  | 0, _ => ⟨h1, h2⟩
  | i + 1, h => by
    have ih := cpI_bd h1 h2 i (fun h' hh => h h' (by omega))
    have := h i (by omega)
    rw [cpI]; omega
theorem cpJ_bd {V : Nat → Nat → Int} {M : Int} (hM : 1 ≤ M) : ∀ j, (∀ h i, h < i → i < j → V h i ≤ M) → 1 ≤ cpJ V j ∧ cpJ V j ≤ M
  | 0, _ => by simp only [cpJ]; omega
  | j + 1, h => by
    have ih := cpJ_bd hM j (fun h' i a b => h h' i a (by omega))
    rw [cpJ]
    exact cpI_bd ih.1 ih.2 j fun h' hh => h h' j hh (by omega)
end Go.Proofs.Ytljlbonoohhhdaa
