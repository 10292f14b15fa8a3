/- Longest paths that go up: numbers. Nothing of the program. -/
import Derived.Test.YtmeihpakbhfipaaDoorUlq
namespace Go.Proofs.YtmeihpakbhfipaaDoor
set_option linter.unusedVariables false
set_option linter.unusedSimpArgs false
open Go Go.RowKit Go.Shelf
/-- The greatest length from p by way of its greater neighbours among the first k points. -/
def lfK (bs : List Nat) (c : Int) (L : Nat → Int) (p : Nat) : Nat → Int
  | 0 => 1
  | k + 1 => if upP bs c p k = true then max (lfK bs c L p k) (L k + 1) else lfK bs c L p k
/-- The lengths at the last d points. -/
def lfA (bs : List Nat) (c : Int) (N : Nat) : Nat → Nat → Int
  | 0 => fun _ => 0
  | d + 1 => fun q => if q = N - (d + 1) then lfK bs c (lfA bs c N d) (N - (d + 1)) N else lfA bs c N d q
def lfV (bs : List Nat) (c : Int) (N q : Nat) : Int := lfA bs c N N q
theorem lfA_st (bs : List Nat) (c : Int) {N d q : Nat} (hq : N - d ≤ q) (hN : q < N) : ∀ e, d + e ≤ N → lfA bs c N (d + e) q = lfA bs c N d q
  | 0, _ => rfl
  | e + 1, h => by
    rw [← Nat.add_assoc, lfA]
    simp only []
    rw [if_neg (by omega)]
    exact lfA_st bs c hq hN e (by omega)
theorem upP_lt {bs : List Nat} {c : Int} {p q : Nat} (h : upP bs c p q = true) : p < q := by
  unfold upP at h
  rw [Bool.and_eq_true, decide_eq_true_iff] at h
  exact h.1
theorem lfK_congr {bs : List Nat} {c : Int} {L M : Nat → Int} {p : Nat} : ∀ k, (∀ q, q < k → upP bs c p q = true → L q = M q) → lfK bs c L p k = lfK bs c M p k
  | 0, _ => rfl
  | k + 1, h => by
    have ih := lfK_congr (bs := bs) (c := c) (L := L) (M := M) (p := p) k (fun q hq => h q (by omega))
    rw [lfK, lfK, ih]
    split
    · rename_i hu; rw [h k (by omega) hu]
    · rfl
theorem lfV_eq (bs : List Nat) (c : Int) {N q : Nat} (hq : q < N) : lfV bs c N q = lfK bs c (lfV bs c N) q N := by
  obtain ⟨d, hd⟩ : ∃ d, d = N - 1 - q := ⟨_, rfl⟩
  have h1 : lfV bs c N q = lfA bs c N (d + 1) q := by
    have := lfA_st bs c (N := N) (d := d + 1) (q := q) (by omega) hq (N - (d + 1)) (by omega)
    rw [show d + 1 + (N - (d + 1)) = N by omega] at this
    exact this
  rw [h1, lfA]
  simp only []
  rw [if_pos (by omega), show N - (d + 1) = q by omega]
  refine lfK_congr N fun r hr hu => ?_
  have := upP_lt hu
  have h2 := lfA_st bs c (N := N) (d := d) (q := r) (by omega) hr (N - d) (by omega)
  rw [show d + (N - d) = N by omega] at h2
  exact h2.symm
theorem lfK_bd {bs : List Nat} {c : Int} {L : Nat → Int} {N p : Nat} (hp : p < N) : ∀ k, k ≤ N → (∀ q, q < k → upP bs c p q = true → 1 ≤ L q ∧ L q ≤ (N : Int) - q) → 1 ≤ lfK bs c L p k ∧ lfK bs c L p k ≤ (N : Int) - p
  | 0, _, _ => by simp only [lfK]; omega
  | k + 1, hk, h => by
    have ih := lfK_bd (bs := bs) (c := c) (L := L) hp k (by omega) (fun q hq => h q (by omega))
    rw [lfK]
    split
    · rename_i hu
      have h1 := h k (by omega) hu
      have h2 := upP_lt hu
      omega
    · exact ih
theorem lfA_bd (bs : List Nat) (c : Int) {N : Nat} : ∀ d, d ≤ N → ∀ q, N - d ≤ q → q < N → 1 ≤ lfA bs c N d q ∧ lfA bs c N d q ≤ (N : Int) - q
  | 0, _, q, h1, h2 => by omega
  | d + 1, hd, q, h1, h2 => by
    rw [lfA]
    simp only []
    split
    · rename_i e
      subst e
      exact lfK_bd (by omega) N (Nat.le_refl _) fun r hr hu => lfA_bd bs c d (by omega) r (by have := upP_lt hu; omega) hr
    · exact lfA_bd bs c d (by omega) q (by omega) h2
theorem lfV_bd (bs : List Nat) (c : Int) {N q : Nat} (hq : q < N) : 1 ≤ lfV bs c N q ∧ lfV bs c N q ≤ (N : Int) - q := lfA_bd bs c N (Nat.le_refl _) q (by omega) hq
theorem lfK_got {bs : List Nat} {c : Int} {L : Nat → Int} {p : Nat} : ∀ k, 1 < lfK bs c L p k → ∃ q, q < k ∧ upP bs c p q = true ∧ L q = lfK bs c L p k - 1
  | 0, h => by simp only [lfK] at h; omega
  | k + 1, h => by
    rw [lfK] at h ⊢
    split
    · rename_i hu
      rw [if_pos hu] at h
      by_cases e : lfK bs c L p k ≤ L k + 1
      · exact ⟨k, by omega, hu, by omega⟩
      · have h' : 1 < lfK bs c L p k := by omega
        obtain ⟨q, h1, h2, h3⟩ := lfK_got k h'
        exact ⟨q, by omega, h2, by omega⟩
    · rename_i hu
      rw [if_neg hu] at h
      obtain ⟨q, h1, h2, h3⟩ := lfK_got k h
      exact ⟨q, by omega, h2, h3⟩
/-- The greatest of the first k numbers, and 0. -/
def mxL (L : Nat → Int) : Nat → Int
  | 0 => 0
  | k + 1 => max (mxL L k) (L k)
theorem mxL_ge {L : Nat → Int} : ∀ {k q : Nat}, q < k → L q ≤ mxL L k
  | k + 1, q, h => by
    rw [mxL]
    by_cases e : q = k
    · subst e; omega
    · have := mxL_ge (L := L) (show q < k by omega); omega
theorem mxL_pos (L : Nat → Int) : ∀ k, 0 ≤ mxL L k
  | 0 => Int.le_refl _
  | k + 1 => by have := mxL_pos L k; rw [mxL]; omega
theorem mxL_got {L : Nat → Int} : ∀ {k : Nat}, 0 < mxL L k → ∃ q, q < k ∧ L q = mxL L k
  | 0, h => by simp [mxL] at h
  | k + 1, h => by
    rw [mxL] at h ⊢
    by_cases e : mxL L k ≤ L k
    · exact ⟨k, by omega, by omega⟩
    · obtain ⟨q, h1, h2⟩ := mxL_got (L := L) (k := k) (by omega)
      exact ⟨q, by omega, by omega⟩
theorem mxL_le {L : Nat → Int} {B : Int} (hB : 0 ≤ B) : ∀ {k : Nat}, (∀ q, q < k → L q ≤ B) → mxL L k ≤ B
  | 0, _ => hB
  | k + 1, h => by
    have h1 := mxL_le (L := L) hB (k := k) (fun q hq => h q (by omega))
    have h2 := h k (by omega)
    rw [mxL]; omega
/-- The first number below N of which something holds. -/
def fsN (pr : Nat → Bool) (N : Nat) : Nat := ((List.range N).find? pr).getD N
theorem fsN_eq {pr : Nat → Bool} {N i : Nat} (h1 : pr i = true) (h2 : i < N) (h3 : ∀ j, j < i → pr j = false) : fsN pr N = i := by
  unfold fsN
  have : (List.range N).find? pr = some i := by
    rw [List.find?_range_eq_some]
    exact ⟨h1, List.mem_range.2 h2, fun j hj => by rw [h3 j hj]; rfl⟩
  rw [this]; rfl
theorem least_of {pr : Nat → Bool} : ∀ (N : Nat), (∃ q, q < N ∧ pr q = true) → ∃ i, i < N ∧ pr i = true ∧ ∀ j, j < i → pr j = false
  | 0, h => by obtain ⟨q, h1, _⟩ := h; omega
  | N + 1, h => by
    by_cases hN : ∃ q, q < N ∧ pr q = true
    · obtain ⟨i, h1, h2, h3⟩ := least_of N hN
      exact ⟨i, by omega, h2, h3⟩
    · obtain ⟨q, h1, h2⟩ := h
      have : q = N := by
        rcases Nat.lt_or_ge q N with h | h
        · exact absurd ⟨q, h, h2⟩ hN
        · omega
      subst this
      refine ⟨q, by omega, h2, fun j hj => ?_⟩
      cases hp : pr j with
      | false => rfl
      | true => exact absurd ⟨j, hj, hp⟩ hN
theorem fsN_spec {pr : Nat → Bool} {N : Nat} (h : ∃ q, q < N ∧ pr q = true) : fsN pr N < N ∧ pr (fsN pr N) = true ∧ ∀ j, j < fsN pr N → pr j = false := by
  obtain ⟨i, h1, h2, h3⟩ := least_of N h
  rw [fsN_eq h2 h1 h3]
  exact ⟨h1, h2, h3⟩
section
variable (bs : List Nat) (c : Int) (N : Nat)
/-- The greatest length. -/
def lnM : Int := mxL (lfV bs c N) N
/-- May q be point k of the path, where p is the one before it? -/
def ptP (p : Nat) (k q : Nat) : Bool := (if k = 0 then true else upP bs c p q) && decide (lfV bs c N q = lnM bs c N - k)
/-- The points of the path. -/
def ptV : Nat → Nat
  | 0 => fsN (ptP bs c N 0 0) N
  | k + 1 => fsN (ptP bs c N (ptV k) (k + 1)) N
def pathL (K : Nat) : List Int := fl K fun k => (ptV bs c N k : Int)
variable {N}
theorem lnM_bd (hN : 1 ≤ N) : 1 ≤ lnM bs c N ∧ lnM bs c N ≤ N := by
  have h1 := mxL_ge (L := lfV bs c N) (show 0 < N by omega)
  have h2 := lfV_bd bs c (show 0 < N by omega)
  have h3 := mxL_le (L := lfV bs c N) (B := (N : Int)) (by omega) (k := N) fun q hq => by have := lfV_bd bs c hq; omega
  unfold lnM
  exact ⟨by omega, h3⟩
theorem pt_first (hN : 1 ≤ N) : ptV bs c N 0 < N ∧ ptP bs c N 0 0 (ptV bs c N 0) = true ∧ ∀ j, j < ptV bs c N 0 → ptP bs c N 0 0 j = false := by
  have h := lnM_bd bs c hN
  obtain ⟨q, h1, h2⟩ := mxL_got (L := lfV bs c N) (k := N) (by unfold lnM at h; omega)
  exact fsN_spec ⟨q, h1, by unfold ptP lnM; simp [h2]⟩
theorem pt_val {k p q : Nat} (h : ptP bs c N p k q = true) : lfV bs c N q = lnM bs c N - k := by
  unfold ptP at h
  rw [Bool.and_eq_true, decide_eq_true_iff] at h
  exact h.2
theorem pt_next {k : Nat} (hk : ((k + 1 : Nat) : Int) < lnM bs c N) (hp : ptV bs c N k < N) (hv : lfV bs c N (ptV bs c N k) = lnM bs c N - k) :
    ptV bs c N (k + 1) < N ∧ ptP bs c N (ptV bs c N k) (k + 1) (ptV bs c N (k + 1)) = true ∧ ∀ j, j < ptV bs c N (k + 1) → ptP bs c N (ptV bs c N k) (k + 1) j = false := by
  have h := lfV_eq bs c hp
  obtain ⟨q, h1, h2, h3⟩ := lfK_got (bs := bs) (c := c) (L := lfV bs c N) (p := ptV bs c N k) N (by omega)
  exact fsN_spec ⟨q, h1, by unfold ptP; simp [h2]; omega⟩
theorem pt_all (hN : 1 ≤ N) : ∀ k : Nat, (k : Int) < lnM bs c N → ptV bs c N k < N ∧ lfV bs c N (ptV bs c N k) = lnM bs c N - k
  | 0, _ => by
    have h := pt_first bs c hN
    exact ⟨h.1, pt_val bs c h.2.1⟩
  | k + 1, hk => by
    obtain ⟨h1, h2⟩ := pt_all hN k (by omega)
    have h := pt_next bs c hk h1 h2
    exact ⟨h.1, pt_val bs c h.2.1⟩
theorem pathL_len (K : Nat) : (pathL bs c N K).length = K := fl_len _ _
end
/-- What LongestUp returns. -/
def luL (n k : Int) (bs : List Nat) (c : Int) : List Int := if given n k bs c [] = 0 then pathL bs c n.toNat (lnM bs c n.toNat).toNat else []
theorem luL_len {n k : Int} {bs : List Nat} {c : Int} : (luL n k bs c).length ≤ 17 := by
  unfold luL
  split
  · rename_i h
    have := isCol_bd (given_cases h).1
    have h2 := lnM_bd bs c (N := n.toNat) (by omega)
    rw [pathL_len]; omega
  · simp
end Go.Proofs.YtmeihpakbhfipaaDoor
