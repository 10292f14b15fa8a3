/- slices.Sort at []int64: the library's contract, at this program. -/
import Derived.Test.YtpjegmmichjlbaaTypes
import Derived.Shelf.SortM.Plain
namespace Go.Proofs.Ytpjegmmichjlbaa
set_option linter.unusedVariables false
set_option linter.unusedSimpArgs false
open Go Go.RowKit Go.Shelf Go.Proofs
def rhoS : Ren := ⟨fun x => match x with | 5 => 89 | 7 => 95 | 8 => 96 | 10 => 103 | 11 => 104 | 12 => 105 | 13 => 106 | 14 => 107 | 15 => 108 | 16 => 109 | 17 => 110 | 18 => 111 | 19 => 112 | 20 => 113 | 30 => 114 | 31 => 115 | 32 => 116 | 33 => 117 | 34 => 118 | 35 => 119 | 40 => 120 | _ => x, fun x => match x with | 0 => 0 | 3 => 3 | 4 => 4 | 5 => 5 | 9 => 9 | 22 => 38 | 23 => 38 | 25 => 2 | 32 => 103 | 35 => 111 | 36 => 112 | 41 => 116 | 44 => 80 | 46 => 78 | 53 => 119 | 57 => 123 | 63 => 125 | 64 => 126 | _ => x, fun x => x⟩
set_option maxRecDepth 100000 in
theorem layS : SlLaysM.n5 Try.prog rhoS where
  mixed := rfl
  f5 := ⟨Try.f89.name, by kernel_rfl, Try.func89.trans (by kernel_rfl)⟩
  f7 := ⟨Try.f95.name, by kernel_rfl, Try.func95.trans (by kernel_rfl)⟩
  f8 := Try.func96.trans (by kernel_rfl)
  f10 := ⟨Try.f103.name, by kernel_rfl, Try.func103.trans (by kernel_rfl)⟩
  f11 := ⟨Try.f104.name, by kernel_rfl, Try.func104.trans (by kernel_rfl)⟩
  f12 := ⟨Try.f105.name, by kernel_rfl, Try.func105.trans (by kernel_rfl)⟩
  f13 := ⟨Try.f106.name, by kernel_rfl, Try.func106.trans (by kernel_rfl)⟩
  f14 := ⟨Try.f107.name, by kernel_rfl, Try.func107.trans (by kernel_rfl)⟩
  f15 := ⟨Try.f108.name, by kernel_rfl, Try.func108.trans (by kernel_rfl)⟩
  f16 := ⟨Try.f109.name, by kernel_rfl, Try.func109.trans (by kernel_rfl)⟩
  f17 := ⟨Try.f110.name, by kernel_rfl, Try.func110.trans (by kernel_rfl)⟩
  f18 := ⟨Try.f111.name, by kernel_rfl, Try.func111.trans (by kernel_rfl)⟩
  f19 := Try.func112.trans (by kernel_rfl)
  f20 := Try.func113.trans (by kernel_rfl)
  f30 := ⟨Try.f114.name, by kernel_rfl, Try.func114.trans (by kernel_rfl)⟩
  f31 := Try.func115.trans (by kernel_rfl)
  f32 := Try.func116.trans (by kernel_rfl)
  f33 := ⟨Try.f117.name, by kernel_rfl, Try.func117.trans (by kernel_rfl)⟩
  f34 := ⟨Try.f118.name, by kernel_rfl, Try.func118.trans (by kernel_rfl)⟩
  f35 := ⟨Try.f119.name, by kernel_rfl, Try.func119.trans (by kernel_rfl)⟩
  f40 := ⟨Try.f120.name, by kernel_rfl, Try.func120.trans (by kernel_rfl)⟩
  t0 := by kernel_rfl
  a0 := fun w => by kernel_rfl
  z0 := fun w => by kernel_rfl
  v0 := fun w => by kernel_rfl
  t3 := by kernel_rfl
  a3 := fun w => by kernel_rfl
  z3 := fun w => by kernel_rfl
  v3 := fun w => by kernel_rfl
  t4 := by kernel_rfl
  a4 := fun w => by kernel_rfl
  z4 := fun w => by kernel_rfl
  v4 := fun w => by kernel_rfl
  t5 := by kernel_rfl
  a5 := fun w => by kernel_rfl
  z5 := fun w => by kernel_rfl
  v5 := fun w => by kernel_rfl
  t9 := by kernel_rfl
  a9 := fun w => by kernel_rfl
  z9 := fun w => by kernel_rfl
  v9 := fun w => by kernel_rfl
  t22 := by kernel_rfl
  a22 := fun w => by kernel_rfl
  z22 := fun w => by kernel_rfl
  v22 := fun w => by kernel_rfl
  t23 := by kernel_rfl
  a23 := fun w => by kernel_rfl
  z23 := fun w => by kernel_rfl
  v23 := fun w => by kernel_rfl
  t25 := by kernel_rfl
  a25 := fun w => by kernel_rfl
  z25 := fun w => by kernel_rfl
  v25 := fun w => by kernel_rfl
  t32 := by kernel_rfl
  a32 := fun w => by kernel_rfl
  z32 := fun w => by kernel_rfl
  v32 := fun w => by kernel_rfl
  t35 := by kernel_rfl
  a35 := fun w => by kernel_rfl
  z35 := fun w => by kernel_rfl
  v35 := fun w => by kernel_rfl
  t36 := by kernel_rfl
  a36 := fun w => by kernel_rfl
  z36 := fun w => by kernel_rfl
  v36 := fun w => by kernel_rfl
  t41 := by kernel_rfl
  a41 := fun w => by kernel_rfl
  z41 := fun w => by kernel_rfl
  v41 := fun w => by kernel_rfl
  t44 := by kernel_rfl
  a44 := fun w => by kernel_rfl
  z44 := fun w => by kernel_rfl
  v44 := fun w => by kernel_rfl
  t46 := by kernel_rfl
  a46 := fun w => by kernel_rfl
  z46 := fun w => by kernel_rfl
  v46 := fun w => by kernel_rfl
  t53 := by kernel_rfl
  a53 := fun w => by kernel_rfl
  z53 := fun w => by kernel_rfl
  v53 := fun w => by kernel_rfl
  t57 := by kernel_rfl
  a57 := fun w => by kernel_rfl
  z57 := fun w => by kernel_rfl
  v57 := fun w => by kernel_rfl
  t63 := by kernel_rfl
  a63 := fun w => by kernel_rfl
  z63 := fun w => by kernel_rfl
  v63 := fun w => by kernel_rfl
  t64 := by kernel_rfl
  a64 := fun w => by kernel_rfl
  z64 := fun w => by kernel_rfl
  v64 := fun w => by kernel_rfl
end Go.Proofs.Ytpjegmmichjlbaa
