/- Lists that came in. -/
import Derived.Test.YtikcmgmgdbbcfaaLaw
import Derived.Test.YtikcmgmgdbbcfaaTests
namespace Go.Proofs.Ytikcmgmgdbbcfaa
set_option linter.unusedVariables false
set_option linter.unusedSimpArgs false
open Go Go.RowKit Go.ChangeShapes Go.WideShapes Go.ChangeAt
set_option maxRecDepth 100000 in
theorem open_list {H : Type} {enc : TypeId × Value → H} {w : World} {base : Nat} {held : Bool} {v : Value} {d : DataW H} {ps : List MemPlace} {r : Reach} {b : Nat}
    (hv : Value.okWide Try.prog w r b 22 v) (h : DataW.Trod enc Try.prog w base (fun _ => true) held 22 v d ps) :
    ∃ a zs cap, v = .slice a (zs : List Int).length cap ∧ SlI w a zs ∧ zs.length ≤ 9223372036854775807 ∧ ∀ j, j < zs.length → -9223372036854775808 ≤ zs.getD j 0 ∧ zs.getD j 0 ≤ 9223372036854775807 := by
  obtain ⟨a, len, cap, rfl⟩ := okWide_slice Try.underlying22 hv
  obtain ⟨fuel, hf⟩ := h
  rcases open_ints Try.underlying22 Try.underlying2 cells2 hf with ⟨hcs, _⟩ | ⟨x, l, c, zs, hcs, _, hl, hm, hz, _, hcell, hwz⟩
  · simp [Value.cells] at hcs
    obtain ⟨rfl, rfl, rfl⟩ := hcs
    exact ⟨none, [], 0, rfl, .inl rfl, by simp, fun j hj => by simp at hj⟩
  · simp [Value.cells] at hcs
    obtain ⟨rfl, rfl, rfl⟩ := hcs
    have hzl : zs.length = cap := by simpa using hz
    have htl : (zs.take len).length = len := by simp; omega
    unfold maxLen at hm
    refine ⟨some x, zs.take len, cap, by rw [htl], ?_, by omega, fun j hj => ?_⟩
    · by_cases h0 : len = 0
      · left; simp [h0]
      · obtain ⟨bl, off, spot⟩ := x
        have hc := hcell 0 (by omega)
        have hspot : spot = none := by simpa [Addr.add] using World.cell?_spot hc
        subst hspot
        refine .inr ⟨bl, off, rfl, fun j hj => ?_⟩
        rw [htl] at hj
        have hcj := hcell j (by omega)
        rw [Addr.add_mid] at hcj
        rw [hcj]
        simp [List.getD, List.getElem?_take, hj]
    · rw [htl] at hj
      have hj2 : j < zs.length := by omega
      have e : (zs.take len).getD j 0 = zs[j] := by simp [List.getD, List.getElem?_take, hj, hj2]
      rw [e]
      exact i64_bd (hwz _ (List.getElem_mem hj2))
end Go.Proofs.Ytikcmgmgdbbcfaa
