/- The model's own lists and the list behind a move. -/
import Derived.Test.YtidengcihakijaaFri
namespace Go.Proofs.Ytidengcihakijaa
set_option linter.unusedVariables false
set_option linter.unusedSimpArgs false
open Go Go.RowKit Go.Shelf
set_option maxRecDepth 100000 in
set_option maxHeartbeats 1000000 in
theorem own60 (b off cap : Nat) (zs : List Int) (w : World) (hs : SlI w (some ⟨b, off, none⟩) zs) (hl : zs.length ≤ 1048576) :
    Calls Try.prog 17 #[.slice (some ⟨b, off, none⟩) zs.length cap] w fun e w' => ∃ g c, e = .returned (.slice (some ⟨g, 0, none⟩) zs.length c) ∧ w'.ownsRow w.heap.size 2 1 (.slice (some ⟨g, 0, none⟩) zs.length c) zs.length (icells zs) ∧ Below w.heap.size w w' := by
  obtain ⟨t0, hi2, hz0, hz1, hz3⟩ := info_parts info2
  have HIF := hidd (And.intro hi2 (And.intro hz0 (And.intro hz1 hz3)))
  have hown := empty_own w
  have HSL := hidd hs
  clear hi2 hz0 hz1 hz3 hs
  go_enter Try.func17, Try.ntmps17
  go_wp2_with (at_builtin; refine wpList_append_own _ rfl _ _ 22 rfl w.heap.size 2 t0 (.int .i64 0) 1 8 Try.underlying22 HIF.out.1 HIF.out.2.1 HIF.out.2.2.1 HIF.out.2.2.2 rfl (by decide) _ _ _ rfl hown ⟨b, off, none⟩ zs.length cap (icells zs) rfl ?c0 ?c1 ?c2 ?c3 ?c4 ?c5 ?_)
  case c0 => simp [icells]
  case c1 =>
    intro j u hu
    have hj : j < zs.length := by have := (List.getElem?_eq_some_iff.1 hu).1; simpa [icells] using this
    rcases HSL.out with hz | ⟨b', off', ha, hc⟩
    · subst hz; simp at hj
    · cases ha
      have h1 := hc j hj
      have h2 := (show (icells zs)[j]? = some (Value.int .i64 (zs.getD j 0)) by simpa using icells_get hj)
      rw [h2] at hu; cases hu
      have hlt := block_lt_of_cell h1
      rw [show (⟨b, off, none⟩ : Addr).add j = ⟨b, off + j, none⟩ from by simp [Addr.add]]
      rw [Below.cell ((Below.refl w.heap.size w).alloc (Nat.le_refl _) (.cells #[] 2)) (by exact hlt)]
      exact h1
  case c2 => intro u hu; simp only [icells, List.mem_map] at hu; obtain ⟨x, _, rfl⟩ := hu; rfl
  case c3 => unfold maxLen; omega
  case c4 => omega
  case c5 => simp
  intro v' w1 hown' hgrow hnn
  have hb1 := ((Below.refl w.heap.size w).alloc (Nat.le_refl _) (.cells #[] 2)).grown hgrow (by simp) (fun k hk => by cases hk; exact Nat.le_refl _)
  simp only [Nat.zero_add, icells, List.map_nil, List.nil_append] at hown'
  have R := hidd (And.intro hown' (And.intro hb1 hnn))
  clear hown' hgrow hnn hb1 hown
  go_wp2
  go_ret
  obtain ⟨r1, r2, r3⟩ := R.out
  rcases r1.2 with ⟨rfl, _⟩ | ⟨g, c, cur, rfl, hx⟩
  · exact (r3 rfl).elim
  · exact ⟨g, c, rfl, r1, r2⟩
theorem OwnL.set {w : World} {B g : Nat} {zs : List Int} (h : OwnL w B (some ⟨g, 0, none⟩) zs) {e : Nat} (he : e < zs.length) (v : Int) :
    (∃ old, w.cell? ⟨g, e, none⟩ = some old) ∧ w.frozen? ⟨g, e, none⟩ = false ∧ B ≤ g ∧ OwnL (w.setCell ⟨g, e, none⟩ (.int .i64 v)) B (some ⟨g, 0, none⟩) (zs.set e v) := by
  rcases h with h | ⟨g', C, h1, h2, h3, h4, h5⟩
  · subst h; simp at he
  · cases h2
    refine ⟨⟨_, h3.cell (h5 e he)⟩, h3.fro e, h1, .inr ⟨g, _, h1, rfl, h3.same e _, by simpa using h4, fun j hj => ?_⟩⟩
    rw [List.length_set] at hj
    rw [Array.getElem?_setIfInBounds, getD_set he]
    by_cases hje : e = j
    · subst hje; rw [if_pos rfl, if_pos (by omega), if_pos rfl]
    · rw [if_neg hje, if_neg (Ne.symm hje)]; exact h5 j hj
end Go.Proofs.Ytidengcihakijaa
