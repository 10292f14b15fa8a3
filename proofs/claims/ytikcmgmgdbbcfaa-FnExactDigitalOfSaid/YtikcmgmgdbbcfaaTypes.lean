/- Facts on the program's types, each reckoned by the kernel. -/
import Derived.Test.YtikcmgmgdbbcfaaProg
import Derived.Test.YtikcmgmgdbbcfaaCol
import Derived.Outline
namespace Go.Proofs.Ytikcmgmgdbbcfaa
open Go Go.RowKit
theorem info22 : (Try.prog.info? 23).map (fun i => (i.zero, i.size)) = some (some (.agg (bcells zbl).toArray), 136) := by kernel_rfl
theorem zero22 : ∀ w, (zeroValue 23).run Try.prog w = .ok (.agg (bcells zbl).toArray) w := (zero_of_info info22).1
theorem size22 : (Try.prog.info? 23).map (·.size) = some 136 := (zero_of_info info22).2
theorem info26 : (Try.prog.info? 25).map (fun i => (i.zero, i.size)) = some (some (.agg (ccells 0 0 zbl).toArray), 138) := by kernel_rfl
theorem zero26 : ∀ w, (zeroValue 25).run Try.prog w = .ok (.agg (ccells 0 0 zbl).toArray) w := (zero_of_info info26).1
theorem size26 : (Try.prog.info? 25).map (·.size) = some 138 := (zero_of_info info26).2
theorem info24 : (Try.prog.info? 32).map (fun i => (i.zero, i.size)) = some (some (.agg (ccells 0 0 zbl).toArray), 138) := by kernel_rfl
theorem size24 : (Try.prog.info? 32).map (·.size) = some 138 := (zero_of_info info24).2
end Go.Proofs.Ytikcmgmgdbbcfaa
