/- Renumbered positions as plain arithmetic. -/
import Derived.Test.YtidengcihakijaaSpm
import Derived.Test.YtidengcihakijaaHld
namespace Go.Proofs.Ytidengcihakijaa
set_option linter.unusedVariables false
set_option linter.unusedSimpArgs false
open Go Go.RowKit
/-- Different numbers below N are at most N. -/
theorem nodup_le : ∀ (N : Nat) (l : List Int), l.Nodup → (∀ x ∈ l, 0 ≤ x ∧ x < (N : Int)) → l.length ≤ N
  | 0, l, _, h => by
    cases l with
    | nil => simp
    | cons x l => have := h x (by simp); omega
  | N + 1, l, hn, h => by
    by_cases hm : (N : Int) ∈ l
    · have h1 := nodup_le N (l.erase (N : Int)) (hn.erase _) (fun x hx => by
        have h2 := (hn.mem_erase_iff).1 hx
        have := h x h2.2
        have := h2.1
        omega)
      rw [List.length_erase_of_mem hm] at h1
      omega
    · have := nodup_le N l hn (fun x hx => by
        have h2 := h x hx
        have : x ≠ (N : Int) := fun e => hm (e ▸ hx)
        omega)
      omega
theorem nodup_all {N : Nat} {l : List Int} (hl : l.length = N) (hn : l.Nodup) (h : ∀ x ∈ l, 0 ≤ x ∧ x < (N : Int)) {v : Int} (hv : 0 ≤ v ∧ v < (N : Int)) : v ∈ l := by
  by_cases hm : v ∈ l
  · exact hm
  · have := nodup_le N (v :: l) (List.nodup_cons.2 ⟨hm, hn⟩) (fun x hx => by
      rcases List.mem_cons.1 hx with rfl | hx
      · exact hv
      · exact h x hx)
    simp at this; omega
/-- The number of the edge between the new numbers of an edge's points. -/
def kix (ps : List Int) (x : Nat × Nat × Nat) : Nat := (eix (ps.getD x.2.1 0) (ps.getD x.2.2 0)).toNat
/-- A list in which the numbers of edges have been laid at their new places. -/
def rnL (zs ps : List Int) (A : List Int) (es : List (Nat × Nat × Nat)) : List Int := es.foldl (fun L x => L.set (kix ps x) (zs.getD x.1 0)) A
theorem rnL_put (zs ps A : List Int) (es : List (Nat × Nat × Nat)) (x : Nat × Nat × Nat) : rnL zs ps A (es ++ [x]) = (rnL zs ps A es).set (kix ps x) (zs.getD x.1 0) := by simp [rnL]
theorem rnL_len (zs ps : List Int) : ∀ (es : List (Nat × Nat × Nat)) (A : List Int), (rnL zs ps A es).length = A.length
  | [], A => rfl
  | x :: es, A => by
    show (rnL zs ps (A.set _ _) es).length = _
    rw [rnL_len zs ps es]; simp
theorem rnL_same (zs ps : List Int) : ∀ (es : List (Nat × Nat × Nat)) (A B : List Int), A.length = B.length → (∀ q, q < A.length → (∃ x, x ∈ es ∧ kix ps x = q) ∨ A.getD q 0 = B.getD q 0) → rnL zs ps A es = rnL zs ps B es
  | [], A, B, hl, h => by
    apply List.ext_getElem hl
    intro q h1 h2
    rcases h q h1 with ⟨x, hx, _⟩ | h
    · cases hx
    · rwa [show A.getD q 0 = A[q] by simp [List.getD, h1], show B.getD q 0 = B[q] by simp [List.getD, h2]] at h
  | x :: es, A, B, hl, h => by
    show rnL zs ps (A.set _ _) es = rnL zs ps (B.set _ _) es
    refine rnL_same zs ps es _ _ (by simp [hl]) (fun q hq => ?_)
    rw [List.length_set] at hq
    by_cases hk : q = kix ps x
    · right
      subst hk
      rw [getD_set hq, getD_set (by omega), if_pos rfl, if_pos rfl]
    · rcases h q hq with ⟨y, hy, hyq⟩ | h
      · rcases List.mem_cons.1 hy with rfl | hy
        · exact absurd hyq.symm hk
        · exact .inl ⟨y, hy, hyq⟩
      · right
        by_cases hkl : kix ps x < A.length
        · rw [getD_set hkl, getD_set (by omega), if_neg hk, if_neg hk]; exact h
        · rw [List.set_eq_of_length_le (by omega), List.set_eq_of_length_le (by omega)]; exact h
theorem eN_split : ∀ (N q : Nat), q < eN N → ∃ hi lo, hi < N ∧ lo < hi ∧ q = eN hi + lo
  | 0, q, h => by simp [eN] at h
  | N + 1, q, h => by
    rw [eN] at h
    by_cases hq : q < eN N
    · obtain ⟨hi, lo, h1, h2, h3⟩ := eN_split N q hq
      exact ⟨hi, lo, by omega, h2, h3⟩
    · exact ⟨N, q - eN N, Nat.lt_succ_self N, by omega, by omega⟩
theorem eseq_in {N hi lo : Nat} (h1 : hi < N) (h2 : lo < hi) : (eN hi + lo, lo, hi) ∈ eseq N := by
  obtain ⟨r, hr⟩ := eseq_at h1 h2
  rw [hr]; simp
theorem eix_sym (i j : Int) (h : i ≠ j) : eix i j = eix j i := by
  unfold eix
  by_cases h1 : j < i
  · rw [if_pos h1, if_neg (by omega)]
  · rw [if_neg h1, if_pos (by omega)]
/-- Each edge's place is laid. -/
theorem kix_all {N : Nat} {ps : List Int} (hl : ps.length = N) (hn : ps.Nodup) (h : ∀ x ∈ ps, 0 ≤ x ∧ x < (N : Int)) {q : Nat} (hq : q < eN N) : ∃ x, x ∈ eseq N ∧ kix ps x = q := by
  obtain ⟨hi, lo, h1, h2, rfl⟩ := eN_split N q hq
  obtain ⟨i, hi1, hi2⟩ := List.getElem_of_mem (nodup_all hl hn h (v := (lo : Int)) (by omega))
  obtain ⟨j, hj1, hj2⟩ := List.getElem_of_mem (nodup_all hl hn h (v := (hi : Int)) (by omega))
  have gi : ps.getD i 0 = (lo : Int) := by simp [List.getD, hi1, hi2]
  have gj : ps.getD j 0 = (hi : Int) := by simp [List.getD, hj1, hj2]
  have hne : i ≠ j := fun e => by subst e; rw [gi] at gj; omega
  rcases Nat.lt_or_gt_of_ne hne with hlt | hlt
  · refine ⟨(eN j + i, i, j), eseq_in (by omega) hlt, ?_⟩
    show (eix (ps.getD i 0) (ps.getD j 0)).toNat = _
    rw [gi, gj, eix_eN h2, Int.toNat_natCast]
  · refine ⟨(eN i + j, j, i), eseq_in (by omega) hlt, ?_⟩
    show (eix (ps.getD j 0) (ps.getD i 0)).toNat = _
    rw [gi, gj, eix_sym _ _ (by omega), eix_eN h2, Int.toNat_natCast]
/-- The renumbered list. -/
def rnZ (N : Nat) (zs ps : List Int) : List Int := rnL zs ps zs (eseq N)
theorem rnZ_eq {N : Nat} {zs ps : List Int} (hlen : zs.length = eN N) (hl : ps.length = N) (hn : ps.Nodup) (h : ∀ x ∈ ps, 0 ≤ x ∧ x < (N : Int)) : rnL zs ps (List.replicate zs.length 0) (eseq N) = rnZ N zs ps :=
  rnL_same zs ps _ _ _ (by simp) (fun q hq => .inl (kix_all hl hn h (by simpa [hlen] using hq)))
theorem rnZ_len (N : Nat) (zs ps : List Int) : (rnZ N zs ps).length = zs.length := rnL_len _ _ _ _
end Go.Proofs.Ytidengcihakijaa
