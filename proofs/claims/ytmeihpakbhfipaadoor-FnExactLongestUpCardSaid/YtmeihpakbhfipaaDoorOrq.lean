/- The order of a colouring: numbers. Nothing of the program. -/
import Derived.Test.YtmeihpakbhfipaaDoorStq
namespace Go.Proofs.YtmeihpakbhfipaaDoor
set_option linter.unusedVariables false
set_option linter.unusedSimpArgs false
open Go Go.RowKit Go.Shelf
/-- A list by its places. -/
def fl (N : Nat) (f : Nat → Int) : List Int := (List.range N).map f
theorem fl_len (N : Nat) (f : Nat → Int) : (fl N f).length = N := by simp [fl]
theorem fl_get {N q : Nat} (f : Nat → Int) (h : q < N) : (fl N f).getD q 0 = f q := by simp [fl, List.getD, h]
theorem fl_congr {N : Nat} {f g : Nat → Int} (h : ∀ q, q < N → f q = g q) : fl N f = fl N g := List.map_congr_left fun q hq => h q (List.mem_range.1 hq)
theorem fl_set {N p : Nat} (f g : Nat → Int) (v : Int) (hp : g p = v) (h : ∀ q, q < N → q ≠ p → g q = f q) : (fl N f).set p v = fl N g := by
  apply List.ext_getElem
  · simp [fl]
  · intro q h1 h2
    have hq : q < N := by simpa [fl] using h2
    rw [List.getElem_set]
    by_cases e : p = q
    · subst e; rw [if_pos rfl]; simp [fl, hp]
    · rw [if_neg e]; simp [fl, h q hq (fun e' => e e'.symm)]
theorem fl_snoc (N : Nat) (f : Nat → Int) : fl (N + 1) f = fl N f ++ [f N] := by simp [fl, List.range_succ]
theorem cnt_add {p q r : Nat → Bool} : ∀ k, (∀ j, j < k → r j = (p j || q j) ∧ ¬ (p j = true ∧ q j = true)) → cnt r k = cnt p k + cnt q k
  | 0, _ => rfl
  | k + 1, h => by
    have ih := cnt_add (p := p) (q := q) (r := r) k (fun j hj => h j (by omega))
    obtain ⟨h1, h2⟩ := h k (by omega)
    rw [cnt, cnt, cnt, ih, h1]
    cases hp : p k <;> cases hq : q k <;> simp_all <;> omega
theorem nbK_cnt (p : Nat → Bool) : ∀ k, (nbK p k).length = cnt p k
  | 0 => rfl
  | k + 1 => by
    rw [nbK, cnt]
    cases hp : p k <;> simp [nbK_cnt p k]
/-- What comes before point i, among the numbers of the order. -/
def ordP (bs : List Nat) (i j : Nat) : Bool := (decide (j < i) && decide (colAt bs (j : Int) (i : Int) = 0)) || (decide (i < j) && decide (colAt bs (i : Int) (j : Int) = 1))
def ordL (bs : List Nat) (N : Nat) : List Int := fl N fun i => (cnt (ordP bs i) N : Nat)
def oA (bs : List Nat) (q P : Nat) : Nat := cnt (fun j => decide (j < q) && decide (colAt bs (j : Int) (q : Int) = 0)) P
def oB (bs : List Nat) (N q : Nat) : Nat := (upR bs 1 N q).length
/-- The list before the round of point P. -/
def oS (bs : List Nat) (N P q : Nat) : Int := ((oA bs q P + (if q < P then oB bs N q else 0) : Nat) : Int)
/-- The list in the round of point P, behind k of its greater neighbours. -/
def oT (bs : List Nat) (N P k q : Nat) : Int := if q = P then ((oA bs P P + oB bs N P : Nat) : Int) else oS bs N P q + (if (q : Int) ∈ (upR bs 0 N P).take k then 1 else 0)
theorem oB_le (bs : List Nat) (N q : Nat) : oB bs N q ≤ N := by have := upR_len bs 1 N q; unfold oB; omega
theorem oS_bd (bs : List Nat) {N P : Nat} (h : P ≤ N) (q : Nat) : 0 ≤ oS bs N P q ∧ oS bs N P q ≤ 2 * N := by
  have h1 : oA bs q P ≤ P := cnt_le _ _
  have h2 := oB_le bs N q
  unfold oS
  split <;> omega
theorem oT_bd (bs : List Nat) {N P : Nat} (h : P ≤ N) (k q : Nat) : 0 ≤ oT bs N P k q ∧ oT bs N P k q ≤ 2 * N + 1 := by
  have h1 : oA bs P P ≤ P := cnt_le _ _
  have h2 := oB_le bs N P
  have h3 := oS_bd bs h q
  unfold oT
  split
  · omega
  · split <;> omega
theorem oS_zero (bs : List Nat) (N : Nat) : fl N (oS bs N 0) = fl N (fun _ => 0) := fl_congr fun q _ => by simp [oS, oA, cnt]
theorem oT_start (bs : List Nat) {N P : Nat} : (fl N (oS bs N P)).set P (oS bs N P P + oB bs N P) = fl N (oT bs N P 0) := by
  refine fl_set _ _ _ ?_ fun q _ hq => ?_
  · unfold oT oS
    rw [if_pos rfl, if_neg (by omega)]
    omega
  · unfold oT
    rw [if_neg hq]
    simp
theorem upR_nodup (bs : List Nat) (c : Int) (N p : Nat) : (upR bs c N p).Nodup := by
  have h := set_pair (nbK_set (upP bs c p) (N := N) (n := (N : Int)) rfl)
  exact h.imp fun h => by omega
theorem oT_step (bs : List Nat) {N P k q : Nat} (hk : k < (upR bs 0 N P).length) (hq : (upR bs 0 N P).getD k 0 = (q : Int)) (hP : P < q) : (fl N (oT bs N P k)).set q (oT bs N P k q + 1) = fl N (oT bs N P (k + 1)) := by
  have hget : (upR bs 0 N P)[k] = (q : Int) := by simpa [List.getD, List.getElem?_eq_getElem hk] using hq
  have htake : (upR bs 0 N P).take (k + 1) = (upR bs 0 N P).take k ++ [(q : Int)] := by rw [List.take_succ_eq_append_getElem hk, hget]
  have hnd := upR_nodup bs 0 N P
  have hnot : ¬ (q : Int) ∈ (upR bs 0 N P).take k := by
    intro h
    have h2 := hnd.sublist (List.take_sublist (k + 1) _)
    rw [htake, List.nodup_append] at h2
    exact h2.2.2 _ h _ (by simp) rfl
  refine fl_set _ _ _ ?_ fun r _ hr => ?_
  · unfold oT
    have e : ¬ q = P := by omega
    rw [if_neg e, if_neg e, if_neg hnot, htake, if_pos (by simp)]
    omega
  · unfold oT
    by_cases e : r = P
    · rw [if_pos e, if_pos e]
    · rw [if_neg e, if_neg e, htake]
      have : ((r : Int) ∈ (upR bs 0 N P).take k ++ [(q : Int)]) ↔ (r : Int) ∈ (upR bs 0 N P).take k := by
        rw [List.mem_append, List.mem_singleton]
        exact ⟨fun h => h.resolve_right (by omega), .inl⟩
      simp only [this]
theorem oT_end (bs : List Nat) {N P : Nat} {k : Nat} (hk : (upR bs 0 N P).length ≤ k) : fl N (oT bs N P k) = fl N (oS bs N (P + 1)) := by
  refine fl_congr fun q hq => ?_
  unfold oT
  rw [List.take_of_length_le hk]
  by_cases e : q = P
  · subst e
    rw [if_pos rfl]
    unfold oS
    rw [if_pos (by omega)]
    have : oA bs q (q + 1) = oA bs q q := by unfold oA; rw [cnt]; simp
    rw [this]
  · rw [if_neg e]
    unfold oS
    have h1 : oA bs q (P + 1) = oA bs q P + (if P < q ∧ colAt bs (P : Int) (q : Int) = 0 then 1 else 0) := by
      unfold oA; rw [cnt]; simp
    have h2 : ((q : Int) ∈ upR bs 0 N P) ↔ (P < q ∧ colAt bs (P : Int) (q : Int) = 0) := by
      rw [upR_mem]
      constructor
      · rintro ⟨r, h, a, b, c⟩
        have e : r = q := by omega
        subst e
        exact ⟨a, c⟩
      · rintro ⟨a, c⟩
        exact ⟨q, rfl, a, hq, c⟩
    rw [h1]
    simp only [h2]
    have h3 : (q < P + 1) ↔ (q < P) := by omega
    simp only [h3]
    by_cases hc : P < q ∧ colAt bs (P : Int) (q : Int) = 0
    · rw [if_pos hc, if_pos hc]; omega
    · rw [if_neg hc, if_neg hc]; omega
theorem oS_done (bs : List Nat) (N : Nat) : fl N (oS bs N N) = ordL bs N := by
  refine fl_congr fun q hq => ?_
  unfold oS oA oB upR
  rw [if_pos hq, nbK_cnt]
  congr 1
  exact (cnt_add N fun j hj => by
    unfold ordP upP
    constructor
    · rfl
    · intro h
      simp at h
      omega).symm
theorem ordL_len (bs : List Nat) (N : Nat) : (ordL bs N).length = N := fl_len N _
/-- What OrderOf returns. -/
def orC (n k : Int) (bs : List Nat) : Int := if isCol n k bs = true then (if k = 2 ∧ clB bs 0 n.toNat = true ∧ clB bs 1 n.toNat = true then 0 else 5) else 1
def orL (n k : Int) (bs : List Nat) : List Int := if orC n k bs = 0 then ordL bs n.toNat else []
theorem or_bad {n k : Int} {bs : List Nat} {m : Int} (h : orC n k bs = m) (hm : m ≠ 0) : orL n k bs = [] ∧ orC n k bs = m := ⟨by unfold orL; rw [h, if_neg hm], h⟩
theorem orL_len {n k : Int} {bs : List Nat} : (orL n k bs).length ≤ 17 := by
  unfold orL orC
  cases hi : isCol n k bs with
  | false => simp
  | true =>
    have := isCol_bd hi
    split
    · split
      · simp [ordL_len]; omega
      · simp
    · simp
end Go.Proofs.YtmeihpakbhfipaaDoor
