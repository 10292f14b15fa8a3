/- The game's positions as plain arithmetic: which edges a player has, how many, and which triangles. -/
import Derived.Test.YtidengcihakijaaGc
namespace Go.Proofs.Ytidengcihakijaa
set_option linter.unusedVariables false
set_option linter.unusedSimpArgs false
open Go Go.RowKit
set_option maxRecDepth 100000 in
theorem within45 (n lo hi : Int) (w : World) : Calls Try.prog 53 #[.int .i64 n, .int .i64 lo, .int .i64 hi] w fun e w' => e = .returned (.bool (inB n lo hi)) ∧ w = w' := by
  unfold inB
  cases h1 : decide (lo ≤ n)
  · have HH := hidd h1
    go_enter Try.func53, Try.ntmps53
    go_wp2
    go_ret
    exact ⟨rfl, rfl⟩
  · have HH := hidd h1
    go_enter Try.func53, Try.ntmps53
    go_wp2
    go_ret
    exact ⟨rfl, rfl⟩
/-- Has the player P the edge j? -/
def pw (P : Int) (zs : List Int) (j : Nat) : Bool := zs.getD j 0 == P
theorem ones_split : ∀ (k X : Nat), ones X = ones (X % 2 ^ k) + ones (X / 2 ^ k)
  | 0, X => by simp [Nat.mod_one, ones_0]
  | k + 1, X => by
    rw [ones_eq X, ones_split k (X / 2), ones_eq (X % 2 ^ (k + 1)), Nat.div_div_eq_div_mul, show 2 * 2 ^ k = 2 ^ (k + 1) by rw [Nat.pow_succ, Nat.mul_comm]]
    have h1 : X % 2 ^ (k + 1) % 2 = X % 2 := by rw [Nat.pow_succ, Nat.mul_comm, Nat.mod_mul_right_mod]
    have h2 : X % 2 ^ (k + 1) / 2 = X / 2 % 2 ^ k := by rw [Nat.pow_succ, Nat.mul_comm, Nat.mod_mul_right_div_self]
    rw [h1, h2]; omega
/-- Who moves: 0 or 1 in what is a position. -/
def mvr (zs : List Int) : Int := (cnt (pw 0 zs) zs.length : Int) - (cnt (pw 1 zs) zs.length : Int)
/-- The edges of the triangle of i, j, k, as digits in base 2. -/
def mk3 (k j i : Nat) : Nat := 2 ^ (eN j + i) ||| 2 ^ (eN k + i) ||| 2 ^ (eN k + j)
/-- Has the player P the triangle of i, j, k? -/
def has3 (P : Int) (zs : List Int) (k j i : Nat) : Bool := pw P zs (eN j + i) && pw P zs (eN k + i) && pw P zs (eN k + j)
/-- The triangles of P with k, j and a point less than i. -/
def triI (P : Int) (zs : List Int) (k j : Nat) : Nat → List Nat
  | 0 => []
  | i + 1 => triI P zs k j i ++ (if has3 P zs k j i then [mk3 k j i] else [])
def triJ (P : Int) (zs : List Int) (k : Nat) : Nat → List Nat
  | 0 => []
  | j + 1 => triJ P zs k j ++ triI P zs k j j
def triK (P : Int) (zs : List Int) : Nat → List Nat
  | 0 => []
  | k + 1 => triK P zs k ++ triJ P zs k k
/-- The triangles of P at the edges of a list. -/
def triE (P : Int) (zs : List Int) : List (Nat × Nat × Nat) → List Nat
  | [] => []
  | x :: xs => triI P zs x.2.2 x.2.1 x.2.1 ++ triE P zs xs
theorem triE_app (P : Int) (zs : List Int) : ∀ (a b : List (Nat × Nat × Nat)), triE P zs (a ++ b) = triE P zs a ++ triE P zs b
  | [], b => rfl
  | x :: a, b => by rw [List.cons_append, triE, triE, triE_app P zs a b, List.append_assoc]
theorem triE_row (P : Int) (zs : List Int) (k : Nat) : ∀ j, triE P zs (rowE k j) = triJ P zs k j
  | 0 => rfl
  | j + 1 => by rw [rowE_succ, triE_app, triE_row P zs k j, triE, triE, triJ, List.append_nil]
theorem triE_all (P : Int) (zs : List Int) : ∀ N, triE P zs (eseq N) = triK P zs N
  | 0 => rfl
  | N + 1 => by rw [eseq, triE_app, triE_all P zs N, triE_row, triK]
theorem triI_len (P : Int) (zs : List Int) (k j : Nat) : ∀ i, (triI P zs k j i).length ≤ i
  | 0 => Nat.le_refl _
  | i + 1 => by
    have := triI_len P zs k j i
    rw [triI, List.length_append]
    split <;> simp <;> omega
theorem triJ_len (P : Int) (zs : List Int) (k : Nat) : ∀ j, (triJ P zs k j).length ≤ j * j
  | 0 => Nat.le_refl _
  | j + 1 => by
    have h1 := triJ_len P zs k j
    have h2 := triI_len P zs k j j
    rw [triJ, List.length_append]
    have : (j + 1) * (j + 1) = j * j + 2 * j + 1 := by rw [Nat.add_mul, Nat.mul_add]; omega
    omega
theorem triK_len (P : Int) (zs : List Int) : ∀ k, (triK P zs k).length ≤ k * k * k
  | 0 => Nat.le_refl _
  | k + 1 => by
    have h1 := triK_len P zs k
    have h2 := triJ_len P zs k k
    rw [triK, List.length_append]
    have e : (k + 1) * (k + 1) = k * k + 2 * k + 1 := by rw [Nat.add_mul, Nat.mul_add]; omega
    have : k * k * k + k * k ≤ (k + 1) * (k + 1) * (k + 1) := by
      rw [e, Nat.mul_add, Nat.mul_one]
      have : k * k * k ≤ (k * k + 2 * k + 1) * k := Nat.mul_le_mul_right k (by omega)
      omega
    omega
theorem mk3_lt {k j i N : Nat} (hN : N ≤ 5) (hk : k < N) (hj : j < k) (hi : i < j) : mk3 k j i < 2 ^ eN N := by
  have h1 := eN_mono (show j + 1 ≤ N by omega)
  have h2 := eN_mono (show k + 1 ≤ N by omega)
  rw [eN] at h1 h2
  exact Nat.or_lt_two_pow (Nat.or_lt_two_pow (Nat.pow_lt_pow_right (by omega) (by omega)) (Nat.pow_lt_pow_right (by omega) (by omega))) (Nat.pow_lt_pow_right (by omega) (by omega))
theorem triI_lt {P : Int} {zs : List Int} {k j N : Nat} (hN : N ≤ 5) (hk : k < N) (hj : j < k) : ∀ i, i ≤ j → ∀ m, m ∈ triI P zs k j i → m < 2 ^ eN N
  | 0, _, m, h => by cases h
  | i + 1, hi, m, h => by
    rw [triI, List.mem_append] at h
    rcases h with h | h
    · exact triI_lt hN hk hj i (by omega) m h
    · split at h
      · simp at h; subst h; exact mk3_lt hN hk hj (by omega)
      · cases h
theorem triJ_lt {P : Int} {zs : List Int} {k N : Nat} (hN : N ≤ 5) (hk : k < N) : ∀ j, j ≤ k → ∀ m, m ∈ triJ P zs k j → m < 2 ^ eN N
  | 0, _, m, h => by cases h
  | j + 1, hj, m, h => by
    rw [triJ, List.mem_append] at h
    rcases h with h | h
    · exact triJ_lt hN hk j (by omega) m h
    · exact triI_lt hN hk (by omega) j (Nat.le_refl _) m h
theorem triK_lt {P : Int} {zs : List Int} {N : Nat} (hN : N ≤ 5) : ∀ k, k ≤ N → ∀ m, m ∈ triK P zs k → m < 2 ^ eN N
  | 0, _, m, h => by cases h
  | k + 1, hk, m, h => by
    rw [triK, List.mem_append] at h
    rcases h with h | h
    · exact triK_lt hN k (by omega) m h
    · exact triJ_lt hN (by omega) k (Nat.le_refl _) m h
/-- What is in all sets of a list, and in c. -/
def cmL (c : Nat) (l : List Nat) : Nat := l.foldl (fun a b => a &&& b) c
theorem cmL_app (c : Nat) (a : List Nat) (m : Nat) : cmL c (a ++ [m]) = cmL c a &&& m := by simp [cmL]
theorem cmL_le (c : Nat) : ∀ (l : List Nat), cmL c l ≤ c := by
  intro l
  induction l generalizing c with
  | nil => exact Nat.le_refl _
  | cons x l ih => exact Nat.le_trans (ih (c &&& x)) Nat.and_le_left
theorem cmL_same {c d : Nat} {l : List Nat} (h0 : l ≠ []) (h : ∀ m, m ∈ l → c &&& m = d &&& m) : cmL c l = cmL d l := by
  cases l with
  | nil => exact absurd rfl h0
  | cons x l => simp [cmL, h x (by simp)]
theorem full_and {e m : Nat} (h : m < 2 ^ e) : (2 ^ e - 1) &&& m = m := by
  rw [Nat.and_comm, Nat.and_two_pow_sub_one_eq_mod, Nat.mod_eq_of_lt h]
/-- Is what is told by n points and a list a position? -/
def posB (N : Nat) (zs : List Int) : Bool := inB (mvr zs) 0 1 && ((triK (mvr zs) zs N).isEmpty && cmL 65535 (triK (1 - mvr zs) zs N) != 0)
theorem cm_both {N : Nat} {P : Int} {zs : List Int} (hN : N ≤ 5) (h0 : triK P zs N ≠ []) : cmL (2 ^ eN N - 1) (triK P zs N) = cmL 65535 (triK P zs N) := by
  refine cmL_same h0 (fun m hm => ?_)
  have h := triK_lt hN N (Nat.le_refl _) m hm
  have he : eN N ≤ 10 := Nat.le_trans (eN_mono hN) (by decide)
  have h16 : m < 2 ^ 16 := Nat.lt_of_lt_of_le h (Nat.pow_le_pow_right (by omega) (by omega))
  rw [full_and h, show 65535 = 2 ^ 16 - 1 from rfl, full_and h16]
/-- Are a number of points and a list as told? -/
def lstB (n : Int) (zs : List Int) : Bool := inB n 1 5 && (decide ((zs.length : Int) = edg n) && zs.all fun z => inB z (-1) 1)
/-- The code of a position. -/
def gmCode (n : Int) (zs : List Int) : Int := if lstB n zs = true then (if posB n.toNat zs = true then 0 else 1) else 2
end Go.Proofs.Ytidengcihakijaa
