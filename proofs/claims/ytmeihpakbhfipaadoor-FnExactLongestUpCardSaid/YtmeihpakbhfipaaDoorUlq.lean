/- The greatest lengths of paths that go up and end with a point: numbers. Nothing of the program. -/
import Derived.Test.YtmeihpakbhfipaaDoorOrq
namespace Go.Proofs.YtmeihpakbhfipaaDoor
set_option linter.unusedVariables false
set_option linter.unusedSimpArgs false
open Go Go.RowKit Go.Shelf
theorem mx_if (a b : Int) : max a b = if a < b then b else a := by rw [Int.max_def]; split <;> split <;> omega
/-- The greatest length at q by way of the first i points, where L has the lengths at them. -/
def ulM (bs : List Nat) (c : Int) (L : Nat → Int) (q : Nat) : Nat → Int
  | 0 => 1
  | i + 1 => if colAt bs (i : Int) (q : Int) = c then max (ulM bs c L q i) (L i + 1) else ulM bs c L q i
/-- The lengths at the first j points. -/
def ulA (bs : List Nat) (c : Int) : Nat → List Int
  | 0 => []
  | j + 1 => ulA bs c j ++ [ulM bs c (fun i => (ulA bs c j).getD i 0) j j]
def ulV (bs : List Nat) (c : Int) (q : Nat) : Int := (ulA bs c (q + 1)).getD q 0
theorem ulA_len (bs : List Nat) (c : Int) : ∀ j, (ulA bs c j).length = j
  | 0 => rfl
  | j + 1 => by rw [ulA, List.length_append, ulA_len bs c j]; rfl
theorem ulM_congr {bs : List Nat} {c : Int} {L M : Nat → Int} {q : Nat} : ∀ i, (∀ i', i' < i → L i' = M i') → ulM bs c L q i = ulM bs c M q i
  | 0, _ => rfl
  | i + 1, h => by rw [ulM, ulM, ulM_congr i (fun i' hi => h i' (by omega)), h i (by omega)]
theorem ulA_fl (bs : List Nat) (c : Int) : ∀ j, ulA bs c j = fl j (ulV bs c)
  | 0 => rfl
  | j + 1 => by
    have hv : ulV bs c j = ulM bs c (fun i => (ulA bs c j).getD i 0) j j := by
      unfold ulV
      rw [ulA, List.getD, List.getElem?_append_right (by rw [ulA_len]; exact Nat.le_refl _), ulA_len]
      simp
    rw [fl_snoc, ← ulA_fl bs c j, hv, ulA]
theorem ulV_eq (bs : List Nat) (c : Int) (q : Nat) : ulV bs c q = ulM bs c (ulV bs c) q q := by
  have hv : ulV bs c q = ulM bs c (fun i => (ulA bs c q).getD i 0) q q := by
    unfold ulV
    rw [ulA, List.getD, List.getElem?_append_right (by rw [ulA_len]; exact Nat.le_refl _), ulA_len]
    simp
  rw [hv]
  exact ulM_congr q fun i hi => by rw [ulA_fl, fl_get _ hi]
theorem ulM_bd {bs : List Nat} {c : Int} {L : Nat → Int} {q : Nat} : ∀ i, (∀ i', i' < i → 1 ≤ L i' ∧ L i' ≤ i' + 1) → 1 ≤ ulM bs c L q i ∧ ulM bs c L q i ≤ i + 1
  | 0, _ => by simp [ulM]
  | i + 1, h => by
    have ih := ulM_bd (bs := bs) (c := c) (L := L) (q := q) i (fun i' hi => h i' (by omega))
    have hi := h i (by omega)
    rw [ulM]
    split <;> omega
theorem ulV_bd (bs : List Nat) (c : Int) (q : Nat) : 1 ≤ ulV bs c q ∧ ulV bs c q ≤ q + 1 := by
  induction q using Nat.strongRecOn with
  | _ q ih =>
    rw [ulV_eq]
    exact ulM_bd q fun i hi => ih i hi
theorem ulM_bd2 (bs : List Nat) (c : Int) (q i : Nat) : 1 ≤ ulM bs c (ulV bs c) q i ∧ ulM bs c (ulV bs c) q i ≤ i + 1 := ulM_bd i fun i' _ => ulV_bd bs c i'
/-- The list before the round of point P. -/
def uS (bs : List Nat) (c : Int) (P q : Nat) : Int := ulM bs c (ulV bs c) q (min P q)
/-- The list in the round of point P, behind k of its greater neighbours. -/
def uT (bs : List Nat) (c : Int) (N P k q : Nat) : Int := if (q : Int) ∈ (upR bs c N P).take k then max (uS bs c P q) (uS bs c P P + 1) else uS bs c P q
theorem uS_bd (bs : List Nat) (c : Int) (P q : Nat) : 1 ≤ uS bs c P q ∧ uS bs c P q ≤ P + 1 := by
  have := ulM_bd2 bs c q (min P q)
  unfold uS; omega
theorem uT_bd (bs : List Nat) (c : Int) (N P k q : Nat) : 1 ≤ uT bs c N P k q ∧ uT bs c N P k q ≤ P + 2 := by
  have h1 := uS_bd bs c P q
  have h2 := uS_bd bs c P P
  unfold uT; split <;> omega
theorem uS_zero (bs : List Nat) (c : Int) (N : Nat) : fl N (fun _ => 1) = fl N (uS bs c 0) := fl_congr fun q _ => by simp [uS, ulM]
theorem uT_start (bs : List Nat) (c : Int) (N P : Nat) : fl N (uT bs c N P 0) = fl N (uS bs c P) := fl_congr fun q _ => by simp [uT]
theorem upR_self {bs : List Nat} {c : Int} {N P k : Nat} : ¬ (P : Int) ∈ (upR bs c N P).take k := by
  intro h
  obtain ⟨q, e, h1, _⟩ := upR_mem.1 (List.mem_of_mem_take h)
  omega
theorem uT_self (bs : List Nat) (c : Int) (N P k : Nat) : uT bs c N P k P = uS bs c P P := by unfold uT; rw [if_neg upR_self]
theorem uT_step (bs : List Nat) (c : Int) {N P k q : Nat} (hk : k < (upR bs c N P).length) (hq : (upR bs c N P).getD k 0 = (q : Int)) (hP : P < q) : (fl N (uT bs c N P k)).set q (max (uT bs c N P k q) (uT bs c N P k P + 1)) = fl N (uT bs c N P (k + 1)) := by
  have hget : (upR bs c N P)[k] = (q : Int) := by simpa [List.getD, List.getElem?_eq_getElem hk] using hq
  have htake : (upR bs c N P).take (k + 1) = (upR bs c N P).take k ++ [(q : Int)] := by rw [List.take_succ_eq_append_getElem hk, hget]
  have hnd := upR_nodup bs c N P
  have hnot : ¬ (q : Int) ∈ (upR bs c N P).take k := by
    intro h
    have h2 := hnd.sublist (List.take_sublist (k + 1) _)
    rw [htake, List.nodup_append] at h2
    exact h2.2.2 _ h _ (by simp) rfl
  rw [uT_self]
  refine fl_set _ _ _ ?_ fun r _ hr => ?_
  · unfold uT
    rw [if_neg hnot, htake, if_pos (by simp)]
  · unfold uT
    rw [htake]
    have : ((r : Int) ∈ (upR bs c N P).take k ++ [(q : Int)]) ↔ (r : Int) ∈ (upR bs c N P).take k := by
      rw [List.mem_append, List.mem_singleton]
      constructor
      · intro h; exact h.resolve_right (by omega)
      · exact .inl
    simp only [this]
theorem uT_end (bs : List Nat) (c : Int) {N P k : Nat} (hk : (upR bs c N P).length ≤ k) : fl N (uT bs c N P k) = fl N (uS bs c (P + 1)) := by
  refine fl_congr fun q hq => ?_
  unfold uT
  rw [List.take_of_length_le hk]
  have h2 : ((q : Int) ∈ upR bs c N P) ↔ (P < q ∧ colAt bs (P : Int) (q : Int) = c) := by
    rw [upR_mem]
    constructor
    · rintro ⟨r, h, a, b, d⟩
      have e : r = q := by omega
      subst e
      exact ⟨a, d⟩
    · rintro ⟨a, d⟩
      exact ⟨q, rfl, a, hq, d⟩
  simp only [h2]
  have hPP : uS bs c P P = ulV bs c P := by unfold uS; rw [Nat.min_self, ← ulV_eq]
  by_cases hpq : P < q
  · have e1 : uS bs c (P + 1) q = if colAt bs (P : Int) (q : Int) = c then max (uS bs c P q) (ulV bs c P + 1) else uS bs c P q := by
      unfold uS
      rw [show min (P + 1) q = P + 1 by omega, show min P q = P by omega, ulM]
    rw [e1, hPP]
    simp [hpq]
  · rw [if_neg (fun h => hpq h.1)]
    unfold uS
    rw [show min (P + 1) q = min P q by omega]
theorem uS_done (bs : List Nat) (c : Int) (N : Nat) : fl N (uS bs c N) = fl N (ulV bs c) := fl_congr fun q hq => by
  unfold uS
  rw [show min N q = q by omega, ← ulV_eq]
/-- What UpLengths returns. -/
def ulL (n k : Int) (bs : List Nat) (c : Int) : List Int := if given n k bs c [] = 0 then fl n.toNat (ulV bs c) else []
theorem ulL_len {n k : Int} {bs : List Nat} {c : Int} : (ulL n k bs c).length ≤ 17 := by
  unfold ulL
  split
  · rename_i h
    have := isCol_bd (given_cases h).1
    rw [fl_len]; omega
  · simp
end Go.Proofs.YtmeihpakbhfipaaDoor
