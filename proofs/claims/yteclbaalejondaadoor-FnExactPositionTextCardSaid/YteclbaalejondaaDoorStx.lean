/- Texts of positions: the model. -/
import Derived.Test.YteclbaalejondaaDoorEnt
import Derived.Laws.BytesArg
namespace Go.Proofs.YteclbaalejondaaDoor
set_option linter.unusedVariables false
set_option linter.unusedSimpArgs false
open Go Go.RowKit
/-- The sign of a number. -/
def sgn (z : Int) : Int := if z = -1 then 46 else if z = 0 then 48 else 49
/-- The bytes of a position's text, with the first k signs. -/
def txK (n : Int) (zs : List Int) : Nat → List Int
  | 0 => [48 + n, 58]
  | k + 1 => txK n zs k ++ [sgn (zs.getD k 0)]
theorem txK_len (n : Int) (zs : List Int) : ∀ k, (txK n zs k).length = k + 2
  | 0 => rfl
  | k + 1 => by rw [txK, List.length_append, txK_len n zs k]; rfl
def ptV (n : Int) (zs : List Int) : ByteArray := if gmCode n zs = 0 then strOfNums (txK n zs zs.length) else strOfNums []
theorem pt_0 {n : Int} {zs : List Int} (h : gmCode n zs = 0) : ptV n zs = strOfNums (txK n zs zs.length) := if_pos h
theorem pt_no {n : Int} {zs : List Int} (h : ¬ gmCode n zs = 0) : ptV n zs = strOfNums [] := if_neg h
set_option maxRecDepth 100000 in
set_option maxHeartbeats 1000000 in
theorem dec14 (n : Int) (n1 : 1 ≤ n) (n5 : n ≤ 5) (w : World) : Calls Tryd.prog 14 #[.int .i64 n] w fun e w' => e = .returned (.string (strOfNums [48 + n])) ∧ Below w.heap.size w w' := by
  have hw : IntKind.u8.wrap (48 + n) = 48 + n := by simp [IntKind.wrap, IntKind.bits, IntKind.signed]; omega
  have hcv := fun w' (h : w'.cell? ⟨w.heap.size, 0, none⟩ = some (.int .u8 (48 + n))) => run_convert_bytes_arg (P := Tryd.prog) w' 42 5 Tryd.underlying42 Tryd.underlying5 w.heap.size 0 1 1 [48 + n] rfl (fun i hi => by
    obtain rfl : i = 0 := by omega
    exact h) 9 Tryd.underlying9
  have hc := hcv (w.alloc (.cells #[.int .u8 (48 + n)] 5)) ((Blk.new w #[.int .u8 (48 + n)] 5 _ rfl).cell rfl)
  have HB := hidd ((Below.refl w.heap.size w).alloc (Nat.le_refl _) (.cells #[.int .u8 (48 + n)] 5))
  clear hcv
  go_enter Tryd.func14, Tryd.ntmps14
  go_wp2
  go_ret
  exact ⟨rfl, HB.out⟩
end Go.Proofs.YteclbaalejondaaDoor
