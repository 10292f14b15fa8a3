/- Lists of lists that are handed in. -/
import Derived.Test.YtljlbonoohhhdaaCks
import Derived.Test.YtljlbonoohhhdaaGe
namespace Go.Proofs.Ytljlbonoohhhdaa
set_option linter.unusedVariables false
set_option linter.unusedSimpArgs false
open Go Go.RowKit Go.ChangeShapes Go.WideShapes Go.ChangeAt
theorem open_row1 {H : Type} {enc : TypeId × Value → H} {w : World} {base fuel : Nat} {spare : Nat → Bool} {held : Bool} {cs : List Value} {x : DataW H × List MemPlace} (hf : DataW.trod enc Try.prog w base spare held fuel 22 cs = some x) :
    ∃ a zs cap, cs = [.slice a (zs : List Int).length cap] ∧ SlI w a zs ∧ zs.length ≤ 9223372036854775807 := by
  rcases open_ints Try.underlying22 Try.underlying2 cells2 hf with ⟨hcs, _⟩ | ⟨x, l, c, zs, hcs, _, hl, hm, hz, _, hcell, hwz⟩
  · exact ⟨none, [], 0, hcs, .inl rfl, by simp⟩
  · have hzl : l ≤ zs.length := by rw [hz]; split <;> omega
    have htl : (zs.take l).length = l := by simp; omega
    unfold maxLen at hm
    refine ⟨some x, zs.take l, c, by rw [htl]; exact hcs, ?_, by omega⟩
    by_cases h0 : l = 0
    · left; simp [h0]
    · obtain ⟨bl, off, spot⟩ := x
      have hc := hcell 0 (by omega)
      have hspot : spot = none := by simpa [Addr.add] using World.cell?_spot hc
      subst hspot
      refine .inr ⟨bl, off, rfl, fun j hj => ?_⟩
      rw [htl] at hj
      have hcj := hcell j (by omega)
      rw [Addr.add_mid] at hcj
      rw [hcj]
      simp [List.getD, List.getElem?_take, hj]
theorem cellsS : Try.prog.cellsOf 22 = 1 := by kernel_rfl
set_option maxRecDepth 100000 in
theorem open_ll {H : Type} {enc : TypeId × Value → H} {w : World} {base : Nat} {held : Bool} {v : Value} {d : DataW H} {ps : List MemPlace} {r : Reach} {b : Nat}
    (hv : Value.okWide Try.prog w r b 40 v) (h : DataW.Trod enc Try.prog w base (fun _ => true) held 40 v d ps) :
    ∃ a L cap, v = .slice a (L : List (List Int)).length cap ∧ LLa w a L ∧ L.length ≤ 9223372036854775807 ∧ ∀ i, i < L.length → (L.getD i []).length ≤ 9223372036854775807 := by
  obtain ⟨a, len, cap, rfl⟩ := okWide_slice under40 hv
  obtain ⟨fuel, hf⟩ := h
  rcases DataW.trod_slice under40 hf with ⟨hcs, _⟩ | ⟨a', len', cap', elems, rest, n, _, hcs, _, hb, hl, hm, hlen, hel, hsp, hns⟩
  · simp [Value.cells] at hcs
    obtain ⟨rfl, rfl, rfl⟩ := hcs
    exact ⟨none, [], 0, rfl, .inl rfl, by simp, fun i hi => by simp at hi⟩
  · simp [Value.cells] at hcs
    obtain ⟨rfl, rfl, rfl⟩ := hcs
    have each : ∀ i, i < len → ∃ z : List Int, ∃ b c, w.cell? (a'.add i) = some (.slice b z.length c) ∧ SlI w b z ∧ z.length ≤ 9223372036854775807 := by
      intro i hi
      have h1 := hel i hi
      rw [List.getElem?_eq_getElem (by omega), cellsS, Nat.mul_one, Option.bind_eq_some_iff] at h1
      obtain ⟨cs', hcs, hy⟩ := h1
      obtain ⟨b, z, c, e, hs, hz⟩ := open_row1 hy
      subst e
      exact ⟨z, b, c, cell_of_cells?_one hcs, hs, hz⟩
    obtain ⟨f, hfz⟩ : ∃ f : Nat → List Int, ∀ i, i < len → ∃ b c, w.cell? (a'.add i) = some (.slice b (f i).length c) ∧ SlI w b (f i) ∧ (f i).length ≤ 9223372036854775807 :=
      ⟨fun i => if h : i < len then Classical.choose (each i h) else [], fun i hi => by
        simp only [dif_pos hi]
        exact Classical.choose_spec (each i hi)⟩
    obtain ⟨L, hL⟩ : ∃ L, L = (List.range len).map f := ⟨_, rfl⟩
    have hLl : L.length = len := by rw [hL]; simp
    have hLg : ∀ i, i < len → L.getD i [] = f i := fun i hi => by rw [hL]; simp [List.getD, hi]
    unfold maxLen at hm
    refine ⟨some a', L, cap, by rw [hLl], ?_, by omega, fun i hi => by rw [hLl] at hi; rw [hLg i hi]; obtain ⟨_, _, _, _, h⟩ := hfz i hi; exact h⟩
    by_cases h0 : len = 0
    · left; rw [hL, h0]; rfl
    · obtain ⟨bl, off, spot⟩ := a'
      obtain ⟨b0, c0, hc, _⟩ := hfz 0 (by omega)
      have hspot : spot = none := by simpa [Addr.add] using World.cell?_spot hc
      subst hspot
      refine .inr ⟨bl, off, rfl, fun j hj => ?_⟩
      rw [hLl] at hj
      obtain ⟨b, c, h1, h2, _⟩ := hfz j hj
      rw [Addr.add_mid] at h1
      exact ⟨b, c, by rw [hLg j hj]; exact h1, by rw [hLg j hj]; exact h2⟩
end Go.Proofs.Ytljlbonoohhhdaa
