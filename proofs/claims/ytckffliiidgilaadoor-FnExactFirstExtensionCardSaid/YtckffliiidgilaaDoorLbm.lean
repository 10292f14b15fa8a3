/- LongestBeginning: where the first clique of its size is whole. Nothing of the program. -/
import Derived.Test.YtckffliiidgilaaDoorLbq
import Derived.Test.YtckffliiidgilaaDoorBad
import Derived.Test.YtckffliiidgilaaDoorBac
namespace Go.Proofs.YtckffliiidgilaaDoor
set_option linter.unusedVariables false
set_option linter.unusedSimpArgs false
/-- The first number below N that P holds of, or N. -/
def fst' (P : Nat → Bool) : Nat → Nat
  | 0 => 0
  | N + 1 => if fst' P N < N then fst' P N else if P N = true then N else N + 1
theorem fst_le (P : Nat → Bool) : ∀ N, fst' P N ≤ N
  | 0 => Nat.le_refl _
  | N + 1 => by
    have := fst_le P N
    rw [fst']
    split
    · omega
    · split <;> omega
theorem fst_is {P : Nat → Bool} : ∀ {N : Nat}, fst' P N < N → P (fst' P N) = true
  | 0, h => absurd h (by simp)
  | N + 1, h => by
    rw [fst'] at h ⊢
    by_cases h1 : fst' P N < N
    · rw [if_pos h1]; exact fst_is h1
    · rw [if_neg h1] at h ⊢
      by_cases h2 : P N = true
      · rw [if_pos h2]; exact h2
      · rw [if_neg h2] at h; omega
theorem fst_hit {P : Nat → Bool} {q : Nat} (hq : P q = true) : ∀ {N : Nat}, q < N → fst' P N ≤ q
  | 0, h => absurd h (by simp)
  | N + 1, h => by
    rw [fst']
    by_cases e : q = N
    · subst e
      split
      · omega
      · simp [hq]
    · have := fst_hit hq (N := N) (by omega)
      rw [if_pos (by omega)]; exact this
theorem fst_eq {P : Nat → Bool} {N m : Nat} (hm : m < N) (h : P m = true) (h0 : ∀ j, j < m → P j = false) : fst' P N = m := by
  have h1 := fst_hit h hm
  by_cases e : fst' P N = m
  · exact e
  · have h2 := fst_is (P := P) (N := N) (by omega)
    rw [h0 _ (by omega)] at h2; cases h2
theorem fst_none {P : Nat → Bool} {N : Nat} (h0 : ∀ j, j < N → P j = false) : fst' P N = N := by
  by_cases e : fst' P N = N
  · exact e
  · have h1 := fst_le P N
    have h2 := fst_is (P := P) (N := N) (by omega)
    rw [h0 _ (by omega)] at h2; cases h2
def lbP (bs : List Nat) (zs : List Int) (K : Nat) (m : Nat) : Bool := !avP (m + 1) bs zs K
def lbN (N : Nat) (bs : List Nat) (zs : List Int) (K : Nat) : Nat := fst' (lbP bs zs K) N
def lgV (n k : Int) (bs : List Nat) (zs : List Int) : Int := if szCode n k bs zs = 0 then (lbN n.toNat bs zs k.toNat : Int) else 0
theorem cs_mem {bs : List Nat} {c : Int} {N : Nat} {m : Int} (hN : N ≤ 17) {s : List Nat} (h : s ∈ csL (nsF bs c (eseq N)) N m) : s ∈ cqE (fitR (rwN bs c N)) N N [] ∧ (s.length : Int) = m := by
  unfold csL at h
  rw [List.mem_filter] at h
  have h1 : s ∈ cqE (fitR (nsF bs c (eseq N))) N N [] := h.1
  obtain ⟨h2, h3, h4⟩ := mem_cqE.1 h1
  refine ⟨mem_cqE.2 ⟨h2, List.Pairwise.imp_of_mem (fun {a b} ha hb hab => ⟨hab.1, by rw [← nsF_rw bs c (h4 b hb) hN]; exact hab.2⟩) h3, h4⟩, of_decide_eq_true h.2⟩
theorem mem_cs {bs : List Nat} {c : Int} {N : Nat} {m : Int} (hN : N ≤ 17) {s : List Nat} (h : s ∈ cqE (fitR (rwN bs c N)) N N []) (hm : (s.length : Int) = m) : s ∈ csL (nsF bs c (eseq N)) N m := by
  unfold csL
  rw [List.mem_filter]
  obtain ⟨h2, h3, h4⟩ := mem_cqE.1 h
  refine ⟨?_, decide_eq_true hm⟩
  show s ∈ cqE (fitR (nsF bs c (eseq N))) N N []
  exact mem_cqE.2 ⟨h2, List.Pairwise.imp_of_mem (fun {a b} ha hb hab => ⟨hab.1, by rw [nsF_rw bs c (h4 b hb) hN]; exact hab.2⟩) h3, h4⟩
theorem cs_shape {bs : List Nat} {c : Int} {N : Nat} {m : Int} (hN : N ≤ 17) {s : List Nat} (h : s ∈ csL (nsF bs c (eseq N)) N m) : ∃ q r, s = q :: r ∧ q < N ∧ ∀ p ∈ r, p < q := by
  obtain ⟨h1, _⟩ := cs_mem hN h
  obtain ⟨h2, h3, h4⟩ := mem_cqE.1 h1
  cases s with
  | nil => exact absurd rfl h2
  | cons q r => exact ⟨q, r, rfl, h4 q (by simp), fun p hp => ((List.pairwise_cons.1 h3).1 p hp).1⟩
theorem lb_low {N K : Nat} {bs : List Nat} {zs : List Int} (hN : N ≤ 17) {c q : Nat} {r : List Nat} (hc : c < K) (h : (q :: r) ∈ csL (nsF bs (c : Int) (eseq N)) N (zs.getD c 0)) : lbN N bs zs K ≤ q := by
  obtain ⟨h1, h2⟩ := cs_mem hN h
  have hq := (mem_cqE.1 h1).2.2 q (by simp)
  have hk := beg_of h1
  refine fst_hit ?_ hq
  unfold lbP
  rw [avP_fall (N := q + 1) (d := c) (m := K) _ hc]
  · rfl
  · rw [clqL_has, ← h2, Int.toNat_natCast, hk]; rfl
theorem lb_ex {N K : Nat} {bs : List Nat} {zs : List Int} (hN : N ≤ 17) (hsz : szP zs K = true) (h : lbN N bs zs K < N) : ∃ c, c < K ∧ ∃ q r, (q :: r) ∈ csL (nsF bs (c : Int) (eseq N)) N (zs.getD c 0) ∧ q ≤ lbN N bs zs K := by
  have h1 : lbP bs zs K (lbN N bs zs K) = true := fst_is h
  have h2 : avP (lbN N bs zs K + 1) bs zs K = false := by
    unfold lbP at h1
    cases hx : avP (lbN N bs zs K + 1) bs zs K with
    | false => rfl
    | true => rw [hx] at h1; cases h1
  unfold avP at h2
  rw [List.all_eq_false] at h2
  obtain ⟨c, hc, h3⟩ := h2
  have hcK := List.mem_range.1 hc
  have hin := inB_bd (szP_get hsz hcK)
  rw [clqL_has] at h3
  have h4 : hasK (rwN bs (c : Int) (lbN N bs zs K + 1)) (lbN N bs zs K + 1) (zs.getD c 0).toNat (2 ^ (lbN N bs zs K + 1) - 1) = true := by
    cases hx : hasK (rwN bs (c : Int) (lbN N bs zs K + 1)) (lbN N bs zs K + 1) (zs.getD c 0).toNat (2 ^ (lbN N bs zs K + 1) - 1) with
    | true => rfl
    | false => rw [hx] at h3; simp at h3
  obtain ⟨p, s, h5, h6, h7⟩ := beg_ex h (by omega) h4
  exact ⟨c, hcK, p, s, mem_cs hN h6 (by omega), h5⟩
/-- What is told of the least end that has come. -/
def LgI (N K : Nat) (bs : List Nat) (zs : List Int) (d : Nat) (L : List (List Nat)) (j lg : Nat) : Prop :=
  lg ≤ N ∧ lbN N bs zs K ≤ lg ∧ (∀ c, c < d → ∀ q r, (q :: r) ∈ csL (nsF bs (c : Int) (eseq N)) N (zs.getD c 0) → lg ≤ q) ∧ ∀ i q r, i < j → L[i]? = some (q :: r) → lg ≤ q
theorem LgI.start (N K : Nat) (bs : List Nat) (zs : List Int) : LgI N K bs zs 0 [] 0 N := ⟨Nat.le_refl _, fst_le _ _, fun c hc => by omega, fun i q r hi => by omega⟩
theorem LgI.inner {N K d lg : Nat} {bs : List Nat} {zs : List Int} (h : LgI N K bs zs d [] 0 lg) (L : List (List Nat)) : LgI N K bs zs d L 0 lg := ⟨h.1, h.2.1, h.2.2.1, fun i q r hi => by omega⟩
theorem LgI.step {N K d j lg q : Nat} {bs : List Nat} {zs : List Int} {r : List Nat} (hN : N ≤ 17) (hd : d < K) (h : LgI N K bs zs d (csL (nsF bs (d : Int) (eseq N)) N (zs.getD d 0)) j lg) (hj : (csL (nsF bs (d : Int) (eseq N)) N (zs.getD d 0))[j]? = some (q :: r)) :
    LgI N K bs zs d (csL (nsF bs (d : Int) (eseq N)) N (zs.getD d 0)) (j + 1) (if q < lg then q else lg) := by
  have hm := List.mem_of_getElem? hj
  have hlo := lb_low (bs := bs) (zs := zs) (K := K) hN hd hm
  have hq := ((mem_cqE.1 (cs_mem hN hm).1).2.2 q (by simp))
  obtain ⟨h1, h2, h3, h4⟩ := h
  refine ⟨by split <;> omega, by split <;> omega, fun c hc q' r' hm' => ?_, fun i q' r' hi hm' => ?_⟩
  · have := h3 c hc q' r' hm'; split <;> omega
  · by_cases e : i = j
    · subst e; rw [hj] at hm'; cases hm'; split <;> omega
    · have := h4 i q' r' (by omega) hm'; split <;> omega
theorem LgI.next {N K d lg : Nat} {bs : List Nat} {zs : List Int} (hN : N ≤ 17) (h : LgI N K bs zs d (csL (nsF bs (d : Int) (eseq N)) N (zs.getD d 0)) (csL (nsF bs (d : Int) (eseq N)) N (zs.getD d 0)).length lg) : LgI N K bs zs (d + 1) [] 0 lg := by
  refine ⟨h.1, h.2.1, fun c hc q r hm => ?_, fun i q r hi => by omega⟩
  by_cases e : c = d
  · subst e
    obtain ⟨i, hi, hx⟩ := List.getElem_of_mem hm
    exact h.2.2.2 i q r hi (by rw [List.getElem?_eq_getElem hi, hx])
  · exact h.2.2.1 c (by omega) q r hm
theorem LgI.done {N K lg : Nat} {bs : List Nat} {zs : List Int} (hN : N ≤ 17) (hsz : szP zs K = true) (h : LgI N K bs zs K [] 0 lg) : lg = lbN N bs zs K := by
  have h1 := h.2.1
  by_cases hlt : lbN N bs zs K < N
  · obtain ⟨c, hc, q, r, hm, hq⟩ := lb_ex hN hsz hlt
    have := h.2.2.1 c hc q r hm
    omega
  · have := h.1; omega
end Go.Proofs.YtckffliiidgilaaDoor
