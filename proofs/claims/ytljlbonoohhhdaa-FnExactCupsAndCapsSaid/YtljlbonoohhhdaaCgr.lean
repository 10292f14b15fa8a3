/- greatestCup: the program. -/
import Derived.Test.YtljlbonoohhhdaaCpr
namespace Go.Proofs.Ytljlbonoohhhdaa
set_option linter.unusedVariables false
set_option linter.unusedSimpArgs false
open Go Go.RowKit Go.Shelf
attribute [local go_sem] Oper.semAt_some
theorem eseq_has : ∀ {N lo m : Nat}, m < lo → lo < N → (eN lo + m, m, lo) ∈ eseq N
  | N + 1, lo, m, h1, h2 => by
    rw [eseq, List.mem_append]
    by_cases e : lo = N
    · subst e
      exact .inr (List.mem_map.2 ⟨m, List.mem_range.2 h1, rfl⟩)
    · exact .inl (eseq_has h1 (by omega))
/-- The edges before one are those with lesser numbers. -/
theorem pre_has {N q lo hi m : Nat} {pre rest : List (Nat × Nat × Nat)} (h : eseq N = pre ++ (q, lo, hi) :: rest) (hm : m < lo) : (eN lo + m, m, lo) ∈ pre := by
  have hx : (q, lo, hi) ∈ eseq N := by rw [h]; simp
  obtain ⟨b1, b2⟩ := eseq_bd hx
  have hq := eseq_mem hx
  dsimp only at b1 b2 hq
  have hin := eseq_has hm (show lo < N by omega)
  have hmono := eN_mono (show lo + 1 ≤ hi by omega)
  rw [eN] at hmono
  rw [h, List.mem_append, List.mem_cons] at hin
  rcases hin with hin | hin | hin
  · exact hin
  · exact absurd (congrArg (fun x => x.2.2) hin) (by dsimp only; omega)
  · exfalso
    have hs : ((eseq N).map (·.1)).Pairwise (· < ·) := by rw [eseq_nums]; exact List.pairwise_lt_range
    rw [h, List.map_append, List.map_cons, List.pairwise_append, List.pairwise_cons] at hs
    have := hs.2.1.1 (eN lo + m) (List.mem_map.2 ⟨_, hin, rfl⟩)
    dsimp only at this
    omega
/-- The list in its variable, the lengths of the chains (those of the edges that are done, and what stands at others), the greatest one, the points. -/
def RelCu (X Y : Nat → Int) (N g : Nat) (V : Nat → Nat → Int) (w : World) (b : Int) (pre : List (Nat × Nat × Nat)) (cur : List (Nat × Int)) (wr : World) : Prop :=
  Blk wr w.heap.size #[.slice (some ⟨g, 0, none⟩) N N] 58 ∧ (∃ C, Blk wr (w.heap.size + 1) C 79 ∧ C.size = 136 ∧ (∀ q, q < 136 → ∃ z : Int, C[q]? = some (.int .i64 z)) ∧ (∀ x ∈ pre, C[x.1]? = some (.int .i64 (V x.2.1 x.2.2))) ∧ ∀ p ∈ cur, C[p.1]? = some (.int .i64 p.2)) ∧
  Blk wr (w.heap.size + 1 + 1) #[.int .i64 b] 2 ∧ Prs wr g X Y N ∧ Below w.heap.size w wr
section
variable {X Y : Nat → Int} {N g : Nat} {V : Nat → Nat → Int} {w : World} {b : Int} {pre : List (Nat × Nat × Nat)} {cur : List (Nat × Int)} {wr : World}
theorem RelCu.more {w2 : World} (h : RelCu X Y N g V w b pre cur wr) {B : Nat} (hB : w.heap.size + 1 + 1 < B) (hg : g < B) (hb : Below B wr w2) : RelCu X Y N g V w b pre cur w2 := by
  obtain ⟨h1, ⟨C, h2, h3⟩, h4, h5, h6⟩ := h
  exact ⟨h1.below hb (by omega), ⟨C, h2.below hb (by omega), h3⟩, h4.below hb hB, Blk.below h5 hb hg, h6.trans (hb.mono (by omega))⟩
theorem RelCu.put (h : RelCu X Y N g V w b pre cur wr) (hg : g < w.heap.size) {q : Nat} (hq : q < 136) (hp : ∀ x ∈ pre, x.1 ≠ q) (z : Int) : RelCu X Y N g V w b pre [(q, z)] (wr.setCell ⟨w.heap.size + 1, q, none⟩ (.int .i64 z)) := by
  obtain ⟨h1, ⟨C, h2, h3, h4, h5, h6⟩, h7, h8, h9⟩ := h
  refine ⟨h1.other _ _ (by show _ ≠ w.heap.size + 1; omega), ⟨_, h2.same q (.int .i64 z), by simpa using h3, fun r hr => ?_, fun x hx => ?_, fun p hp' => ?_⟩, h7.other _ _ (by show _ ≠ w.heap.size + 1; omega), Blk.other h8 _ _ (by show _ ≠ w.heap.size + 1; omega), h9.setCell (p := ⟨w.heap.size + 1, q, none⟩) (by show _ ≤ w.heap.size + 1; omega) _⟩
  · by_cases e : q = r
    · subst e; exact ⟨z, by rw [Array.getElem?_setIfInBounds_self_of_lt (by omega)]⟩
    · obtain ⟨z', hz⟩ := h4 r hr
      exact ⟨z', by rw [Array.getElem?_setIfInBounds_ne e]; exact hz⟩
  · rw [Array.getElem?_setIfInBounds_ne (fun e => hp x hx e.symm)]; exact h5 x hx
  · simp only [List.mem_cons, List.not_mem_nil, or_false] at hp'
    subst hp'
    rw [Array.getElem?_setIfInBounds_self_of_lt (by omega)]
theorem RelCu.fin {q lo hi : Nat} {z : Int} (h : RelCu X Y N g V w b pre [(q, z)] wr) (e : z = V lo hi) : RelCu X Y N g V w b (pre ++ [(q, lo, hi)]) [] wr := by
  obtain ⟨h1, ⟨C, h2, h3, h4, h5, h6⟩, h7⟩ := h
  refine ⟨h1, ⟨C, h2, h3, h4, fun x hx => ?_, fun p hp => by cases hp⟩, h7⟩
  rw [List.mem_append, List.mem_singleton] at hx
  rcases hx with hx | hx
  · exact h5 x hx
  · subst hx; subst e; exact h6 (q, V lo hi) (by simp)
theorem RelCu.best (h : RelCu X Y N g V w b pre cur wr) (hg : g < w.heap.size) (b' : Int) : RelCu X Y N g V w b' pre cur (wr.setCell ⟨w.heap.size + 1 + 1, 0, none⟩ (.int .i64 b')) := by
  obtain ⟨h1, ⟨C, h2, h3⟩, h7, h8, h9⟩ := h
  exact ⟨h1.other _ _ (by show _ ≠ w.heap.size + 1 + 1; omega), ⟨C, h2.other _ _ (by show _ ≠ w.heap.size + 1 + 1; omega), h3⟩, by have := h7.same 0 (.int .i64 b'); simpa using this, Blk.other h8 _ _ (by show _ ≠ w.heap.size + 1 + 1; omega), h9.setCell (p := ⟨w.heap.size + 1 + 1, 0, none⟩) (by show _ ≤ w.heap.size + 1 + 1; omega) _⟩
theorem RelCu.done (h : RelCu X Y N g V w b pre cur wr) {x : Nat × Nat × Nat} (hx : x ∈ pre) : wr.cell? ⟨w.heap.size + 1, x.1, none⟩ = some (.int .i64 (V x.2.1 x.2.2)) := by
  obtain ⟨h1, ⟨C, h2, h3, h4, h5, h6⟩, h7⟩ := h
  exact h2.cell (h5 x hx)
theorem RelCu.now {q : Nat} {z : Int} (h : RelCu X Y N g V w b pre [(q, z)] wr) : wr.cell? ⟨w.heap.size + 1, q, none⟩ = some (.int .i64 z) := by
  obtain ⟨h1, ⟨C, h2, h3, h4, h5, h6⟩, h7⟩ := h
  exact h2.cell (h6 (q, z) (by simp))
theorem RelCu.any (h : RelCu X Y N g V w b pre cur wr) {q : Nat} (hq : q < 136) : ∃ z : Int, wr.cell? ⟨w.heap.size + 1, q, none⟩ = some (.int .i64 z) := by
  obtain ⟨h1, ⟨C, h2, h3, h4, h5, h6⟩, h7⟩ := h
  obtain ⟨z, hz⟩ := h4 q hq
  exact ⟨z, h2.cell hz⟩
theorem RelCu.free (h : RelCu X Y N g V w b pre cur wr) (q : Nat) : wr.frozen? ⟨w.heap.size + 1, q, none⟩ = false := by
  obtain ⟨h1, ⟨C, h2, h3⟩, h7⟩ := h
  exact h2.fro q
end
theorem pre_ne {N q lo hi : Nat} {pre rest : List (Nat × Nat × Nat)} (h : eseq N = pre ++ (q, lo, hi) :: rest) : ∀ x ∈ pre, x.1 ≠ q := by
  intro x hx
  have hs : ((eseq N).map (·.1)).Pairwise (· < ·) := by rw [eseq_nums]; exact List.pairwise_lt_range
  rw [h, List.map_append, List.map_cons, List.pairwise_append] at hs
  have := hs.2.2 x.1 (List.mem_map.2 ⟨_, hx, rfl⟩) q (by simp)
  omega
end Go.Proofs.Ytljlbonoohhhdaa
