/- slices.BinarySearch at []int64: the library's contract, at this program. -/
import Derived.Test.YtidengcihakijaaRev
import Derived.Shelf.SlicesG.SearchI
namespace Go.Proofs.Ytidengcihakijaa
set_option linter.unusedVariables false
set_option linter.unusedSimpArgs false
open Go Go.RowKit Go.Shelf Go.Proofs
def rhoB : Ren := ⟨fun x => match x with | 49 => 59 | 59 => 68 | 60 => 69 | 68 => 61 | _ => x, fun x => match x with | 22 => 22 | 23 => 2 | 51 => 97 | _ => x, fun x => x⟩
set_option maxRecDepth 100000 in
theorem layB : SlLaysN.n49 Try.prog rhoB where
  mixed := rfl
  f49 := ⟨Try.f59.name, by kernel_rfl, Try.func59.trans (by kernel_rfl)⟩
  f59 := ⟨Try.f68.name, by kernel_rfl, Try.func68.trans (by kernel_rfl)⟩
  f60 := ⟨Try.f69.name, by kernel_rfl, Try.func69.trans (by kernel_rfl)⟩
  f68 := ⟨Try.f61.name, by kernel_rfl, Try.func61.trans (by kernel_rfl)⟩
  t0 := by kernel_rfl
  a0 := fun w => by kernel_rfl
  z0 := fun w => by kernel_rfl
  v0 := fun w => by kernel_rfl
  t3 := by kernel_rfl
  a3 := fun w => by kernel_rfl
  z3 := fun w => by kernel_rfl
  v3 := fun w => by kernel_rfl
  t4 := by kernel_rfl
  a4 := fun w => by kernel_rfl
  z4 := fun w => by kernel_rfl
  v4 := fun w => by kernel_rfl
  t22 := by kernel_rfl
  a22 := fun w => by kernel_rfl
  z22 := fun w => by kernel_rfl
  v22 := fun w => by kernel_rfl
  t23 := by kernel_rfl
  a23 := fun w => by kernel_rfl
  z23 := fun w => by kernel_rfl
  v23 := fun w => by kernel_rfl
  t51 := by kernel_rfl
  a51 := fun w => by kernel_rfl
  z51 := fun w => by kernel_rfl
  v51 := fun w => by kernel_rfl
theorem search59 (b off n c : Nat) (zs : List Int) (x : Int) (w : World) (hz : n ≤ zs.length) (hbig : n < 4611686018427387904) (hc : ∀ j, j < zs.length → w.cell? ⟨b, off + j, none⟩ = some (.int .i64 (zs.getD j 0))) (hs : (zs.take n).Pairwise (· ≤ ·)) :
    Calls Try.prog 59 #[.slice (some ⟨b, off, none⟩) n c, .int .i64 x] w fun e w' => e = .returned (.tuple #[.int .i64 ((zs.take n).countP (· < x) : Nat), .bool ((zs.take n).contains x)]) ∧ ∃ q, w' = w.drewN q :=
  AnyG.slices_BinarySearch_int layB b off n c zs x w hz hbig hc hs
end Go.Proofs.Ytidengcihakijaa
