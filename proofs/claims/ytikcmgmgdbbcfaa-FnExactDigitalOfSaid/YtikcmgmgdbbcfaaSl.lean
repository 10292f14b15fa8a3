import Derived.Test.YtikcmgmgdbbcfaaTypes
namespace Go.Proofs.Ytikcmgmgdbbcfaa
open Go Go.RowKit
theorem slice22_hi (b o E : Nat) (w : World) (h : E ≤ 136) : (Instr.sliceAt 23 (.pointer (some ⟨b, o, none⟩)) none (some (.int .i64 E)) none).run Try.prog w = .ok (.slice (some ⟨b, o, none⟩) E 136) w := by
  simp [Instr.sliceAt, Instr.sureAddr, Instr.sliceBounds, Instr.sliceBound, Sem.run_bind, run_underlying Try.underlying23, asIntOf, h, Result.andThen, Addr.add]
theorem slice22_lo (b o E : Nat) (w : World) (h : E ≤ 136) : ∃ a, (E < 136 → a = o + E) ∧ (Instr.sliceAt 23 (.pointer (some ⟨b, o, none⟩)) (some (.int .i64 E)) none none).run Try.prog w = .ok (.slice (some ⟨b, a, none⟩) (136 - E) (136 - E)) w := by
  by_cases e : E = 136
  · subst e
    exact ⟨o, by omega, by simp [Instr.sliceAt, Instr.sureAddr, Instr.sliceBounds, Instr.sliceBound, Sem.run_bind, run_underlying Try.underlying23, asIntOf, Result.andThen]⟩
  · refine ⟨o + E, fun _ => rfl, ?_⟩
    have e2 : ¬ 136 = E := fun h => e h.symm
    by_cases z : E = 0
    · subst z
      simp [Instr.sliceAt, Instr.sureAddr, Instr.sliceBounds, Instr.sliceBound, Sem.run_bind, run_underlying Try.underlying23, asIntOf, Result.andThen, Addr.add]
    · simp [Instr.sliceAt, Instr.sureAddr, Instr.sliceBounds, Instr.sliceBound, Sem.run_bind, run_underlying Try.underlying23, asIntOf, h, e2, z, Result.andThen, Addr.add]
end Go.Proofs.Ytikcmgmgdbbcfaa
