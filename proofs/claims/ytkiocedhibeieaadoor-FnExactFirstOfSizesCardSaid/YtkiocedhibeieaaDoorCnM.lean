/- The greatest cliques' sizes: nothing of the program. -/
import Derived.Test.YtkiocedhibeieaaDoorAvi
namespace Go.Proofs.YtkiocedhibeieaaDoor
set_option linter.unusedVariables false
set_option linter.unusedSimpArgs false
open Go Go.RowKit Go.Shelf
/-- With a clique there is one of each lesser size that goes on from the same beginning. -/
theorem cqE_less {fit : List Nat → Nat → Bool} {N : Nat} : ∀ (d : Nat) (s c : List Nat) (m : Nat), c ∈ cqE fit N d s → s.length < m → m ≤ c.length → ∃ c', c' ∈ cqE fit N d s ∧ c'.length = m
  | 0, s, c, m, h, _, _ => by simp [cqE] at h
  | d + 1, s, c, m, h, h1, h2 => by
    rw [cqE] at h ⊢
    split at h
    · rename_i hf
      rw [if_pos hf]
      rcases List.mem_cons.1 h with rfl | h
      · exact ⟨_, List.mem_cons_self .., by simp at h2 ⊢; omega⟩
      · rcases List.mem_append.1 h with h | h
        · by_cases e : m = s.length + 1
          · exact ⟨_, List.mem_cons_self .., by simp; omega⟩
          · obtain ⟨c', k1, k2⟩ := cqE_less d _ c m h (by simp; omega) h2
            exact ⟨c', List.mem_cons_of_mem _ (List.mem_append_left _ k1), k2⟩
        · obtain ⟨c', k1, k2⟩ := cqE_less d s c m h h1 h2
          exact ⟨c', List.mem_cons_of_mem _ (List.mem_append_right _ k1), k2⟩
    · rename_i hf
      rw [if_neg hf]
      exact cqE_less d s c m h h1 h2
/-- The first of the longest lists. -/
def gst (g : List Nat) (l : List (List Nat)) : List Nat := l.foldl (fun g s => if g.length < s.length then s else g) g
theorem gst_snoc (g : List Nat) (l : List (List Nat)) (s : List Nat) : gst g (l ++ [s]) = if (gst g l).length < s.length then s else gst g l := by unfold gst; rw [List.foldl_append]; rfl
theorem gst_ge (l : List (List Nat)) : ∀ (g s : List Nat), s ∈ l → s.length ≤ (gst g l).length := by
  have mono : ∀ (l : List (List Nat)) (g : List Nat), g.length ≤ (gst g l).length := by
    intro l
    induction l with
    | nil => intro g; exact Nat.le_refl _
    | cons x l ih =>
      intro g
      show g.length ≤ (gst (if g.length < x.length then x else g) l).length
      split
      · exact Nat.le_trans (by omega) (ih x)
      · exact ih g
  induction l with
  | nil => intro g s h; simp at h
  | cons x l ih =>
    intro g s h
    show s.length ≤ (gst (if g.length < x.length then x else g) l).length
    rcases List.mem_cons.1 h with rfl | h
    · split
      · exact mono l s
      · exact Nat.le_trans (by omega) (mono l g)
    · exact ih _ s h
theorem gst_mem (l : List (List Nat)) : ∀ (g : List Nat), gst g l = g ∨ gst g l ∈ l := by
  induction l with
  | nil => intro g; exact .inl rfl
  | cons x l ih =>
    intro g
    show gst (if g.length < x.length then x else g) l = g ∨ gst (if g.length < x.length then x else g) l ∈ x :: l
    split
    · rcases ih x with h | h
      · exact .inr (by rw [h]; exact List.mem_cons_self ..)
      · exact .inr (List.mem_cons_of_mem _ h)
    · rcases ih g with h | h
      · exact .inl h
      · exact .inr (List.mem_cons_of_mem _ h)
/-- The number of points of the greatest clique of a colour. -/
def gsz (N : Nat) (bs : List Nat) (c : Int) : Nat := (gst [] (cqR (fitR (nsF bs c (eseq N))) N [] N)).length
theorem clq_list (bs : List Nat) (c : Int) {N : Nat} (hN : N ≤ 17) : cqR (fitR (nsF bs c (eseq N))) N [] N = cqE (fitR (rwN bs c N)) N N [] := cqE_congr (fun p hp => nsF_rw bs c hp hN) N [] (Nat.le_refl _) (by simp)
theorem clqL_isEmpty (bs : List Nat) (c : Int) {N m : Nat} (hm : m ≠ 0) : (clqL bs c N m).isEmpty = true ↔ ∀ s ∈ cqE (fitR (rwN bs c N)) N N [], s.length ≠ m := by
  unfold clqL
  rw [cqH_less (by simpa using fun e => hm e.symm)]
  unfold cqL
  rw [List.isEmpty_iff, List.map_eq_nil_iff, List.filter_eq_nil_iff]
  simp
theorem gsz_none {N : Nat} {bs : List Nat} {c : Int} (hN : N ≤ 17) {m : Nat} (h : gsz N bs c < m) : (clqL bs c N m).isEmpty = true := by
  refine (clqL_isEmpty bs c (by omega)).2 fun s hs => ?_
  unfold gsz at h
  rw [clq_list bs c hN] at h
  have := gst_ge _ [] s hs
  omega
theorem gsz_some {N : Nat} {bs : List Nat} {c : Int} (hN : N ≤ 17) {m : Nat} (h0 : m ≠ 0) (h : m ≤ gsz N bs c) : (clqL bs c N m).isEmpty = false := by
  cases he : (clqL bs c N m).isEmpty with
  | false => rfl
  | true =>
    have h1 := (clqL_isEmpty bs c h0).1 he
    unfold gsz at h
    rw [clq_list bs c hN] at h
    rcases gst_mem (cqE (fitR (rwN bs c N)) N N []) [] with e | e
    · rw [e] at h; simp at h; omega
    · obtain ⟨c', k1, k2⟩ := cqE_less N [] _ m e (by simp; omega) h
      exact absurd k2 (h1 c' k1)
theorem gsz_le {N : Nat} {bs : List Nat} {c : Int} (hN : N ≤ 17) : gsz N bs c ≤ N := by
  unfold gsz
  rw [clq_list bs c hN]
  rcases gst_mem (cqE (fitR (rwN bs c N)) N N []) [] with e | e
  · rw [e]; simp
  · have h1 := cqE_most (fitR_mono (rwN bs c N)) N [] _ e
    rw [← frB_ones (Nat.le_refl N), frB_full] at h1
    rw [List.length_nil, Nat.zero_add] at h1
    refine Nat.le_trans h1 ?_
    have : frB (rwN bs c N) N [] N = 2 ^ N - 1 := frB_full _ _
    rw [← this]
    unfold frB
    rw [ones_arK]
    exact cnt_le _ _
theorem gsz_pos {N : Nat} {bs : List Nat} {c : Int} (h1 : 1 ≤ N) (hN : N ≤ 17) : 1 ≤ gsz N bs c := by
  unfold gsz
  rw [clq_list bs c hN]
  have hm : [0] ∈ cqE (fitR (rwN bs c N)) N N [] := by
    obtain ⟨d, rfl⟩ : ∃ d, N = d + 1 := ⟨N - 1, by omega⟩
    rw [cqE, if_pos (by rfl), Nat.sub_self]
    exact List.mem_cons_self ..
  have := gst_ge _ [] _ hm
  simpa using this
/-- The cliques of one colour with m points have m points. -/
theorem clqL_len {bs : List Nat} {c : Int} {N m : Nat} (hm : m ≠ 0) {zs : List Int} (h : zs ∈ clqL bs c N m) : zs.length = m := by
  unfold clqL at h
  rw [cqH_less (by simpa using fun e => hm e.symm)] at h
  unfold cqL at h
  obtain ⟨s, h1, rfl⟩ := List.mem_map.1 h
  rw [rv_len]
  simpa using (List.mem_filter.1 h1).2
/-- The numbers of all colours. -/
def cnF (N : Nat) (bs : List Nat) (c : Nat) : Int := (gsz N bs (c : Int) : Int)
def cnList (n k : Int) (bs : List Nat) : List Int := if isCol n k bs then fillA (cnF n.toNat bs) k.toNat else []
theorem cnList_len {n k : Int} {bs : List Nat} : (cnList n k bs).length ≤ 17 := by
  unfold cnList
  split
  · rename_i h
    have := isCol_bd h
    rw [fillA_len]; omega
  · simp
end Go.Proofs.YtkiocedhibeieaaDoor
