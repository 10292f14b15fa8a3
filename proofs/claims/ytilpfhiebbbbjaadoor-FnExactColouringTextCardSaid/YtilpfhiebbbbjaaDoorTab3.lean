/- The library's tables, as the rows list them; a world that holds them. No walk here reads them. -/
import Derived.Test.YtilpfhiebbbbjaaDoorCards
import Derived.Test.YtilpfhiebbbbjaaDoorTie
import Derived.Test.YtilpfhiebbbbjaaDoorGe
import Derived.Test.YtilpfhiebbbbjaaDoorCte
import Derived.Deep.DeepHandedRow
import Derived.Lib.LaidTab
import Derived.Lib.TrailingZeros
namespace Go.Proofs.YtilpfhiebbbbjaaDoor
set_option linter.unusedVariables false
set_option linter.unusedSimpArgs false
open Go Go.RowKit Go.ChangeShapes Go.WideShapes Go.ChangeAt
def Tz (_ : World) : Prop := True
def tabA : List Int := Lib.deBruijn32tab.map fun (x : Nat) => (x : Int)
def tabB : List Int := Lib.deBruijn64tab.map fun (x : Nat) => (x : Int)
def tabC : List Int := (List.range 20).map fun i => ((10 ^ i : Nat) : Int)
def putTab (k : IntKind) (zs : List Int) : Obj → Obj
  | .cells _ t frozen => .cells (zs.map fun z => Value.int k z).toArray t frozen
  | o => o
noncomputable def laidWorld (os : Os) (args : Array Value) : World :=
  { World.holding Tryd.prog os ⟨#[], #[], []⟩ with heap := (((World.holding Tryd.prog os ⟨#[], #[], []⟩).heap.modify 0 (putTab .u64 tabC)).modify 1 (putTab .u8 tabA)).modify 2 (putTab .u8 tabB) }
theorem tz_of {W : World} (h : laidMetH Tryd.prog [("math/bits.deBruijn32tab", Rows.laid_math_bits_deBruijn32tab), ("math/bits.deBruijn64tab", Rows.laid_math_bits_deBruijn64tab), ("internal/strconv.uint64pow10", Rows.laid_internal_strconv_uint64pow10)] W) : Tz W := trivial
set_option maxRecDepth 100000 in
theorem laid_met (os : Os) (args : Array Value) : laidMet Tryd.prog [("math/bits.deBruijn32tab", Rows.laid_math_bits_deBruijn32tab), ("math/bits.deBruijn64tab", Rows.laid_math_bits_deBruijn64tab), ("internal/strconv.uint64pow10", Rows.laid_internal_strconv_uint64pow10)] ((laidWorld os args).forCall (fun _ _ => 0) ⟨#[], args, []⟩).memory :=
  laidMet_of_run' 8 (by kernel_rfl) (by kernel_rfl)
end Go.Proofs.YtilpfhiebbbbjaaDoor
