/- slices.Reverse at []int64: the library's contract, at this program. -/
import Derived.Test.YtidengcihakijaaGb
import Derived.Shelf.SlicesE.Reverse
import Derived.Sort.OwnSortedInts
namespace Go.Proofs.Ytidengcihakijaa
set_option linter.unusedVariables false
set_option linter.unusedSimpArgs false
open Go Go.RowKit Go.Shelf Go.Proofs Go.Sort
def rhoR : Ren := ⟨fun x => match x with | 35 => 58 | _ => x, fun x => match x with | 22 => 22 | 23 => 2 | _ => x, fun x => x⟩
set_option maxRecDepth 100000 in
theorem layR : SlLaysE.n35 Try.prog rhoR where
  mixed := rfl
  f35 := ⟨Try.f58.name, by kernel_rfl, Try.func58.trans (by kernel_rfl)⟩
  t0 := by kernel_rfl
  a0 := fun w => by kernel_rfl
  z0 := fun w => by kernel_rfl
  v0 := fun w => by kernel_rfl
  t3 := by kernel_rfl
  a3 := fun w => by kernel_rfl
  z3 := fun w => by kernel_rfl
  v3 := fun w => by kernel_rfl
  t4 := by kernel_rfl
  a4 := fun w => by kernel_rfl
  z4 := fun w => by kernel_rfl
  v4 := fun w => by kernel_rfl
  t22 := by kernel_rfl
  a22 := fun w => by kernel_rfl
  z22 := fun w => by kernel_rfl
  v22 := fun w => by kernel_rfl
  a23 := fun w => by kernel_rfl
  z23 := fun w => by kernel_rfl
theorem rev51 (blk off cap : Nat) (zs : List Int) (w : World) (hH : Holds (Value.int .i64) w blk off zs.toArray) (hsz : zs.length ≤ 9223372036854775807) :
    Calls Try.prog 58 #[.slice (some ⟨blk, off, none⟩) zs.length cap] w fun e w' => e = .returned (.tuple #[]) ∧ ∃ n, w' = putRow (Value.int .i64) (Sort.ahead w n) blk off zs.reverse.toArray :=
  AnyE.slices_Reverse layR (Value.int .i64) (fun _ => rfl) blk off cap zs w hH hsz
end Go.Proofs.Ytidengcihakijaa
