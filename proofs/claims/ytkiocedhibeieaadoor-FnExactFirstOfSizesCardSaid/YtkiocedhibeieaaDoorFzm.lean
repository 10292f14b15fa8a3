/- The first clique of a size: nothing of the program. -/
import Derived.Test.YtkiocedhibeieaaDoorGcl
namespace Go.Proofs.YtkiocedhibeieaaDoor
set_option linter.unusedVariables false
set_option linter.unusedSimpArgs false
open Go Go.RowKit Go.Shelf
/-- The first clique of m points of a colour, its points backwards; no point if there is none. -/
def foS (N : Nat) (bs : List Nat) (c : Int) (m : Nat) : List Nat := ((cqE (fitR (rwN bs c N)) N N []).find? fun s => decide (s.length = m)).getD []
theorem foS_take {N : Nat} {bs : List Nat} {c : Int} {m : Nat} (hm : m ≠ 0) : (clqL bs c N m).take 1 = if foS N bs c m = [] then [] else [rv (foS N bs c m)] := by
  rw [clqL_take hm]
  unfold foS
  have h := List.head?_filter (p := fun s : List Nat => decide (s.length = m)) (l := cqE (fitR (rwN bs c N)) N N [])
  rw [← h]
  cases hf : (cqE (fitR (rwN bs c N)) N N []).filter fun s => decide (s.length = m) with
  | nil => simp
  | cons s l =>
    have hs : s ∈ (cqE (fitR (rwN bs c N)) N N []).filter fun s => decide (s.length = m) := by rw [hf]; exact List.mem_cons_self ..
    have hl : s.length = m := by simpa using (List.mem_filter.1 hs).2
    have hne : s ≠ [] := fun e => by subst e; simp at hl; omega
    simp [hne]
theorem foS_ok {N : Nat} {bs : List Nat} {c : Int} {m : Nat} (hN : N ≤ 17) : (foS N bs c m).Pairwise (· > ·) ∧ ∀ q ∈ foS N bs c m, q < 17 := by
  unfold foS
  cases hf : (cqE (fitR (rwN bs c N)) N N []).find? fun s => decide (s.length = m) with
  | none => exact ⟨List.Pairwise.nil, by simp⟩
  | some s =>
    have h := cqE_ok N [] s (Nat.le_refl _) List.Pairwise.nil (by simp) (List.mem_of_find?_eq_some hf)
    exact ⟨h.1, fun q hq => by have := h.2 q hq; omega⟩
theorem foS_X {N : Nat} {bs : List Nat} {c : Int} {m : Nat} (hN : N ≤ 17) : fosX (nsF bs c (eseq N)) N (m : Int) = bitS (foS N bs c m) := by
  unfold fosX foS
  rw [clq_list bs c hN]
  have e : (fun s : List Nat => decide ((s.length : Int) = (m : Int))) = fun s => decide (s.length = m) := by
    funext s
    by_cases h : s.length = m
    · rw [decide_eq_true h, decide_eq_true (by omega)]
    · rw [decide_eq_false h, decide_eq_false (by omega)]
  rw [e]
theorem find_congr {α : Type} {p q : α → Bool} : ∀ (l : List α), (∀ x ∈ l, p x = q x) → l.find? p = l.find? q
  | [], _ => rfl
  | x :: l, h => by
    rw [List.find?_cons, List.find?_cons, h x (List.mem_cons_self ..), find_congr l (fun y hy => h y (List.mem_cons_of_mem _ hy))]
/-- The set that is told for the colour j. -/
def fzS (N : Nat) (bs : List Nat) (zs : List Int) (j : Nat) : List Nat := foS N bs (j : Int) (zs.getD j 0).toNat
/-- The least colour with a clique of its size. -/
def fzI (N : Nat) (bs : List Nat) (zs : List Int) (K : Nat) : Option Nat := (List.range K).find? fun c => decide (fzS N bs zs c ≠ [])
theorem fzI_none {N : Nat} {bs : List Nat} {zs : List Int} {K : Nat} (h : ∀ j, j < K → fzS N bs zs j = []) : fzI N bs zs K = none := by
  unfold fzI
  exact List.find?_eq_none.2 (fun j hj => by rw [h j (List.mem_range.1 hj)]; simp)
theorem fzI_hit {N : Nat} {bs : List Nat} {zs : List Int} {K d : Nat} (h : ∀ j, j < d → fzS N bs zs j = []) (hd : d < K) (h2 : fzS N bs zs d ≠ []) : fzI N bs zs K = some d := by
  unfold fzI
  rw [List.find?_range_eq_some]
  exact ⟨by simpa using h2, List.mem_range.2 hd, fun j hj => by rw [h j hj]; simp⟩
def fzR (N : Nat) (bs : List Nat) (zs : List Int) (K : Nat) : Int × List Int × Int :=
  match fzI N bs zs K with
  | none => (0, [], 4)
  | some c => ((c : Int), rv (fzS N bs zs c), 0)
theorem fzR_none {N : Nat} {bs : List Nat} {zs : List Int} {K : Nat} (h : fzI N bs zs K = none) : fzR N bs zs K = (0, [], 4) := by unfold fzR; rw [h]
theorem fzR_some {N : Nat} {bs : List Nat} {zs : List Int} {K c : Nat} (h : fzI N bs zs K = some c) : fzR N bs zs K = ((c : Int), rv (fzS N bs zs c), 0) := by unfold fzR; rw [h]
theorem fsR_fz {N : Nat} {bs : List Nat} {zs : List Int} {K : Nat} (hN : N ≤ 17) (hsz : szP zs K = true) :
    fsR N bs zs K = match fzI N bs zs K with | none => (0, 0) | some c => (c, bitS (fzS N bs zs c)) := by
  have hz : ∀ j, j < K → fosX (nsF bs (j : Int) (eseq N)) N (zs.getD j 0) = bitS (fzS N bs zs j) := fun j hj => by
    have h1 := inB_bd (szP_get hsz hj)
    unfold fzS
    obtain ⟨m, hm⟩ := Int.eq_ofNat_of_zero_le (show 0 ≤ zs.getD j 0 by omega)
    rw [hm, Int.toNat_natCast]
    exact foS_X hN
  have e : ((List.range K).find? fun (c : Nat) => decide (fosX (nsF bs (c : Int) (eseq N)) N (zs.getD c 0) ≠ 0)) = fzI N bs zs K := by
    unfold fzI
    refine find_congr _ fun j hj => ?_
    rw [hz j (List.mem_range.1 hj)]
    by_cases h : fzS N bs zs j = []
    · rw [h]; rfl
    · have h2 : bitS (fzS N bs zs j) ≠ 0 := fun e => h (bitS_zero.1 e)
      rw [decide_eq_true h, decide_eq_true h2]
  unfold fsR
  rw [e]
  cases hi : fzI N bs zs K with
  | none => rfl
  | some c =>
    have hc : c < K := List.mem_range.1 (List.mem_of_find?_eq_some hi)
    simp only [hz c hc]
def fzC (n k : Int) (bs : List Nat) (zs : List Int) : Int := if szCode n k bs zs = 0 then (fzR n.toNat bs zs k.toNat).1 else 0
def fzL (n k : Int) (bs : List Nat) (zs : List Int) : List Int := if szCode n k bs zs = 0 then (fzR n.toNat bs zs k.toNat).2.1 else []
def fzE (n k : Int) (bs : List Nat) (zs : List Int) : Int := if szCode n k bs zs = 0 then (fzR n.toNat bs zs k.toNat).2.2 else szCode n k bs zs
theorem fz_bad {n k : Int} {bs : List Nat} {zs : List Int} (h : szCode n k bs zs ≠ 0) : fzC n k bs zs = 0 ∧ fzL n k bs zs = [] ∧ fzE n k bs zs = szCode n k bs zs := by
  unfold fzC fzL fzE; rw [if_neg h, if_neg h, if_neg h]; exact ⟨rfl, rfl, rfl⟩
theorem fz_good {n k : Int} {bs : List Nat} {zs : List Int} (h : szCode n k bs zs = 0) : fzC n k bs zs = (fzR n.toNat bs zs k.toNat).1 ∧ fzL n k bs zs = (fzR n.toNat bs zs k.toNat).2.1 ∧ fzE n k bs zs = (fzR n.toNat bs zs k.toNat).2.2 := by
  unfold fzC fzL fzE; rw [if_pos h, if_pos h, if_pos h]; exact ⟨rfl, rfl, rfl⟩
theorem sz_ok {n k : Int} {bs : List Nat} {zs : List Int} (h : szCode n k bs zs = 0) : isCol n k bs = true ∧ szOk k zs = true := by
  cases h1 : isCol n k bs with
  | false => rw [szCode_1 h1] at h; omega
  | true =>
    cases h2 : szOk k zs with
    | false => rw [szCode_2 h1 h2] at h; omega
    | true => exact ⟨rfl, rfl⟩
theorem pw_len : ∀ {s : List Nat} {m : Nat}, s.Pairwise (· > ·) → (∀ q ∈ s, q < m) → s.length ≤ m
  | [], _, _, _ => Nat.zero_le _
  | q :: s, m, h, hb => by
    rw [List.pairwise_cons] at h
    have h1 := pw_len h.2 h.1
    have h2 := hb q (List.mem_cons_self ..)
    simp; omega
theorem fzL_len {n k : Int} {bs : List Nat} {zs : List Int} : (fzL n k bs zs).length ≤ 17 := by
  by_cases h : szCode n k bs zs = 0
  · rw [(fz_good h).2.1]
    obtain ⟨n1, n2, k1, k2⟩ := isCol_bd (sz_ok h).1
    unfold fzR
    split
    · simp
    · rename_i c _
      have ho := foS_ok (bs := bs) (c := (c : Int)) (m := (zs.getD c 0).toNat) (show n.toNat ≤ 17 by omega)
      show (rv _).length ≤ 17
      rw [rv_len]
      exact pw_len ho.1 ho.2
  · rw [(fz_bad h).2.1]; simp
end Go.Proofs.YtkiocedhibeieaaDoor
