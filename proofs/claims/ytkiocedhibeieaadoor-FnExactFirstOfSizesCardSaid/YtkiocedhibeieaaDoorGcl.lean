/- The first of the greatest cliques: nothing of the program. -/
import Derived.Test.YtkiocedhibeieaaDoorCnM
import Derived.Test.YtkiocedhibeieaaDoorPtM
import Derived.Test.YtkiocedhibeieaaDoorGiv
namespace Go.Proofs.YtkiocedhibeieaaDoor
set_option linter.unusedVariables false
set_option linter.unusedSimpArgs false
open Go Go.RowKit Go.Shelf
theorem gst_first (l : List (List Nat)) : ∀ g, gst g l = g ∨ (g.length < (gst g l).length ∧ ∃ a b, l = a ++ gst g l :: b ∧ ∀ s ∈ a, s.length < (gst g l).length) := by
  induction l with
  | nil => intro g; exact .inl rfl
  | cons x l ih =>
    intro g
    have e : gst g (x :: l) = gst (if g.length < x.length then x else g) l := rfl
    rw [e]
    by_cases hc : g.length < x.length
    · rw [if_pos hc]
      rcases ih x with h | ⟨h0, a, b, h1, h2⟩
      · rw [h]; exact .inr ⟨hc, [], l, rfl, by simp⟩
      · refine .inr ⟨by omega, x :: a, b, by rw [List.cons_append, ← h1], fun s hs => ?_⟩
        rcases List.mem_cons.1 hs with rfl | hs
        · exact h0
        · exact h2 s hs
    · rw [if_neg hc]
      rcases ih g with h | ⟨h0, a, b, h1, h2⟩
      · exact .inl h
      · refine .inr ⟨h0, x :: a, b, by rw [List.cons_append, ← h1], fun s hs => ?_⟩
        rcases List.mem_cons.1 hs with rfl | hs
        · omega
        · exact h2 s hs
theorem cqE_ok {fit : List Nat → Nat → Bool} {N : Nat} : ∀ (d : Nat) (s c : List Nat), d ≤ N → s.Pairwise (· > ·) → (∀ q ∈ s, q < N - d) → c ∈ cqE fit N d s → c.Pairwise (· > ·) ∧ ∀ q ∈ c, q < N
  | 0, s, c, _, _, _, h => by simp [cqE] at h
  | d + 1, s, c, hd, hp, hq, h => by
    have hp2 : ((N - (d + 1)) :: s).Pairwise (· > ·) := List.pairwise_cons.2 ⟨fun q h => hq q h, hp⟩
    have hq2 : ∀ q ∈ (N - (d + 1)) :: s, q < N - d := fun q h => by
      rcases List.mem_cons.1 h with h | h
      · omega
      · have := hq q h; omega
    rw [cqE] at h
    split at h
    · rcases List.mem_cons.1 h with rfl | h
      · exact ⟨hp2, fun q h => by have := hq2 q h; omega⟩
      · rcases List.mem_append.1 h with h | h
        · exact cqE_ok d _ c (by omega) hp2 hq2 h
        · exact cqE_ok d s c (by omega) hp (fun q h => by have := hq q h; omega) h
    · exact cqE_ok d s c (by omega) hp (fun q h => by have := hq q h; omega) h
/-- The first of the greatest cliques of a colour, its points backwards. -/
def gcS (N : Nat) (bs : List Nat) (c : Int) : List Nat := gst [] (cqR (fitR (nsF bs c (eseq N))) N [] N)
theorem gcS_len (N : Nat) (bs : List Nat) (c : Int) : (gcS N bs c).length = gsz N bs c := rfl
theorem gcS_mem {N : Nat} {bs : List Nat} {c : Int} (h1 : 1 ≤ N) (hN : N ≤ 17) : gcS N bs c ∈ cqE (fitR (rwN bs c N)) N N [] := by
  have h := gsz_pos (bs := bs) (c := c) h1 hN
  rw [← gcS_len] at h
  unfold gcS at h ⊢
  rw [clq_list bs c hN] at h ⊢
  rcases gst_mem (cqE (fitR (rwN bs c N)) N N []) [] with e | e
  · rw [e] at h; simp at h
  · exact e
theorem gcS_ok {N : Nat} {bs : List Nat} {c : Int} (h1 : 1 ≤ N) (hN : N ≤ 17) : (gcS N bs c).Pairwise (· > ·) ∧ ∀ q ∈ gcS N bs c, q < 17 := by
  have h := cqE_ok N [] _ (Nat.le_refl _) List.Pairwise.nil (by simp) (gcS_mem (bs := bs) (c := c) h1 hN)
  exact ⟨h.1, fun q hq => by have := h.2 q hq; omega⟩
theorem clqL_take {bs : List Nat} {c : Int} {N m : Nat} (hm : m ≠ 0) : clqL bs c N m = ((cqE (fitR (rwN bs c N)) N N []).filter fun s => decide (s.length = m)).map rv := by
  unfold clqL
  rw [cqH_less (by simpa using fun e => hm e.symm)]
  rfl
theorem gcS_take {N : Nat} {bs : List Nat} {c : Int} (h1 : 1 ≤ N) (hN : N ≤ 17) : (clqL bs c N (gsz N bs c)).take 1 = [rv (gcS N bs c)] := by
  have h := gsz_pos (bs := bs) (c := c) h1 hN
  rw [clqL_take (by omega), ← gcS_len]
  rw [← gcS_len] at h
  unfold gcS at h ⊢
  rw [clq_list bs c hN] at h ⊢
  rcases gst_first (cqE (fitR (rwN bs c N)) N N []) [] with e | ⟨_, a, b, e1, e2⟩
  · rw [e] at h; simp at h
  · generalize hg : gst [] (cqE (fitR (rwN bs c N)) N N []) = G at e1 e2 ⊢
    rw [e1, List.filter_append, List.filter_eq_nil_iff.2 (fun s hs => by have := e2 s hs; simp; omega), List.nil_append, List.filter_cons_of_pos (by simp)]
    rfl
theorem clq_one {N : Nat} {bs : List Nat} {c : Int} (h1 : 1 ≤ N) : (clqL bs c N 1).take 1 = [[0]] := by
  rw [clqL_take (by omega)]
  obtain ⟨d, rfl⟩ : ∃ d, N = d + 1 := ⟨N - 1, by omega⟩
  rw [cqE, if_pos (by rfl), Nat.sub_self, List.filter_cons_of_pos (by simp)]
  rfl
def gcList (n k : Int) (bs : List Nat) (c : Int) : List Int := if given n k bs c [] = 0 then rv (gcS n.toNat bs c) else []
theorem given_ok {n k : Int} {bs : List Nat} {c : Int} {zs : List Int} (h : given n k bs c zs = 0) : isCol n k bs = true ∧ belowB c k = true := by
  cases h1 : isCol n k bs with
  | false => rw [given_1 h1] at h; omega
  | true =>
    cases h2 : belowB c k with
    | false => rw [given_2 h1 (by rw [h2]; rfl)] at h; omega
    | true => exact ⟨rfl, rfl⟩
theorem gcList_len {n k : Int} {bs : List Nat} {c : Int} : (gcList n k bs c).length ≤ 17 := by
  unfold gcList
  split
  · rename_i h
    obtain ⟨n1, n2, k1, k2⟩ := isCol_bd (given_ok h).1
    rw [rv_len, gcS_len]
    have := gsz_le (N := n.toNat) (bs := bs) (c := c) (by omega)
    omega
  · simp
end Go.Proofs.YtkiocedhibeieaaDoor
