/- Texts of colourings: the numbers. -/
import Derived.Test.YtilpfhiebbbbjaaDoorGc
import Derived.Laws.BytesArg
namespace Go.Proofs.YtilpfhiebbbbjaaDoor
set_option linter.unusedVariables false
set_option linter.unusedSimpArgs false
open Go Go.RowKit
/-- A number below twenty, written. -/
def dg (n : Int) : List Int := if n < 10 then [48 + n] else [49, 38 + n]
theorem dg_lo {n : Int} (h : n < 10) : dg n = [48 + n] := if_pos h
theorem dg_hi {n : Int} (h : ¬ n < 10) : dg n = [49, 38 + n] := if_neg h
theorem dg_len (n : Int) : 1 ≤ (dg n).length ∧ (dg n).length ≤ 2 := by unfold dg; split <;> simp
/-- A comma before the first edge of each point but the first two. -/
def cm (t : Nat × Nat × Nat) : List Int := if t.2.1 = 0 ∧ 1 < t.2.2 then [44] else []
theorem cm_yes {t : Nat × Nat × Nat} (h : t.2.1 = 0 ∧ 1 < t.2.2) : cm t = [44] := if_pos h
theorem cm_no {t : Nat × Nat × Nat} (h : ¬ (t.2.1 = 0 ∧ 1 < t.2.2)) : cm t = [] := if_neg h
theorem cm_len (t : Nat × Nat × Nat) : (cm t).length ≤ 1 := by unfold cm; split <;> simp
def ed (bs : List Nat) (t : Nat × Nat × Nat) : Int := 48 + ((bs.getD t.1 0 : Nat) : Int)
def hdT (n k : Int) : List Int := dg n ++ [44] ++ dg k ++ [58]
def txF (n k : Int) (bs : List Nat) (xs : List (Nat × Nat × Nat)) : List Int := hdT n k ++ xs.flatMap (fun t => cm t ++ [ed bs t])
theorem txF_nil (n k : Int) (bs : List Nat) : txF n k bs [] = hdT n k := by simp [txF]
theorem txF_snoc (n k : Int) (bs : List Nat) (xs : List (Nat × Nat × Nat)) (t : Nat × Nat × Nat) : txF n k bs (xs ++ [t]) = (txF n k bs xs ++ cm t) ++ [ed bs t] := by simp [txF]
theorem txF_len (n k : Int) (bs : List Nat) : ∀ xs : List (Nat × Nat × Nat), (txF n k bs xs).length ≤ 6 + 2 * xs.length := by
  intro xs
  have h1 := (dg_len n).2
  have h2 := (dg_len k).2
  induction xs with
  | nil => rw [txF_nil]; simp [hdT]; omega
  | cons t r ih =>
    have h3 := cm_len t
    simp [txF, hdT] at ih ⊢
    omega
def ctV (n k : Int) (bs : List Nat) : ByteArray := if isCol n k bs = true then strOfNums (txF n k bs (eseq n.toNat)) else strOfNums []
theorem ct_0 {n k : Int} {bs : List Nat} (h : isCol n k bs = true) : ctV n k bs = strOfNums (txF n k bs (eseq n.toNat)) := if_pos h
theorem ct_no {n k : Int} {bs : List Nat} (h : isCol n k bs = false) : ctV n k bs = strOfNums [] := by unfold ctV; rw [h]; rfl
theorem str_app (a b : List Int) : strOfNums a ++ strOfNums b = strOfNums (a ++ b) := by
  apply ByteArray.ext
  simp [strOfNums, ByteArray.data_append]
/-- Bytes as cells. -/
def bI (bs : List Int) : List Value := bs.map (Value.int .u8)
theorem bI_app (a b : List Int) : bI (a ++ b) = bI a ++ bI b := by simp [bI]
theorem bI_len (a : List Int) : (bI a).length = a.length := by simp [bI]
set_option maxRecDepth 100000 in
set_option maxHeartbeats 1000000 in
theorem dec13a (n : Int) (n1 : 0 ≤ n) (n5 : n < 10) (w : World) : Calls Tryd.prog 13 #[.int .i64 n] w fun e w' => e = .returned (.string (strOfNums [48 + n])) ∧ Below w.heap.size w w' := by
  have hw : IntKind.u8.wrap (48 + n) = 48 + n := by simp [IntKind.wrap, IntKind.bits, IntKind.signed]; omega
  have hcv := fun w' (h : w'.cell? ⟨w.heap.size, 0, none⟩ = some (.int .u8 (48 + n))) => run_convert_bytes_arg (P := Tryd.prog) w' 38 5 Tryd.underlying38 Tryd.underlying5 w.heap.size 0 1 1 [48 + n] rfl (fun i hi => by
    obtain rfl : i = 0 := by omega
    exact h) 9 Tryd.underlying9
  have hc := hcv (w.alloc (.cells #[.int .u8 (48 + n)] 5)) ((Blk.new w #[.int .u8 (48 + n)] 5 _ rfl).cell rfl)
  have HB := hidd ((Below.refl w.heap.size w).alloc (Nat.le_refl _) (.cells #[.int .u8 (48 + n)] 5))
  clear hcv
  go_enter Tryd.func13, Tryd.ntmps13
  go_wp2
  go_ret
  exact ⟨rfl, HB.out⟩
end Go.Proofs.YtilpfhiebbbbjaaDoor
