/- Texts of positions: l09Text. -/
import Derived.Test.YteclbaalejondaaDoorStx
namespace Go.Proofs.YteclbaalejondaaDoor
set_option linter.unusedVariables false
set_option linter.unusedSimpArgs false
open Go Go.RowKit
def sgB : Array Value := #[.string { data := #[46] }, .string { data := #[48] }, .string { data := #[49] }]
theorem str_app (a b : List Int) : strOfNums a ++ strOfNums b = strOfNums (a ++ b) := by
  apply ByteArray.ext
  simp [strOfNums, ByteArray.data_append]
theorem str58 : ({ data := #[58] } : ByteArray) = strOfNums [58] := rfl
theorem sgn_str (z : Int) (h1 : -1 ≤ z) (h2 : z ≤ 1) : ∃ k : Nat, z + 1 = (k : Int) ∧ k < 3 ∧ sgB[k]? = some (.string (strOfNums [sgn z])) := by
  rcases (show z = -1 ∨ z = 0 ∨ z = 1 by omega) with rfl | rfl | rfl
  · exact ⟨0, by omega, by omega, rfl⟩
  · exact ⟨1, by omega, by omega, rfl⟩
  · exact ⟨2, by omega, by omega, rfl⟩
set_option maxRecDepth 100000 in
set_option maxHeartbeats 1000000 in
theorem text9 (n : Int) (zs : List Int) (n1 : 1 ≤ n) (n5 : n ≤ 5) (hl10 : zs.length ≤ 10) (hall : allW zs = true) (a : Option Addr) (cap : Nat) (w : World) (hs : SlI w a zs) :
    Calls Tryd.prog 9 #[.int .i64 n, .slice a zs.length cap] w fun e w' => e = .returned (.string (strOfNums (txK n zs zs.length))) ∧ Below w.heap.size w w' := by
  have HD := hidd (dec14 n n1 n5 w)
  have HS := hidd hs
  have HA := hidd hall
  have hszz : ¬ 9223372036854775807 < (strOfNums [48 + n]).size + 1 := by rw [strOfNums_size]; simp
  clear hs hall
  go_enter Tryd.func9, Tryd.ntmps9
  go_wp2_with fail
  refine HD.out.mono ?_
  rintro e w1 ⟨rfl, hb1⟩
  have G1 := hidd (show Blk (w1.alloc (.cells sgB 9)) w1.heap.size sgB 9 ∧ Below w.heap.size w (w1.alloc (.cells sgB 9)) from ⟨Blk.new _ _ _ _ rfl, hb1.alloc hb1.size _⟩)
  clear hb1
  go_wp2_with fail
  clear hszz
  go_loopw [5, 7] (fun v i wr => ∃ j : Nat, j ≤ zs.length ∧ i = .int .i64 j ∧ v = .string (strOfNums (txK n zs j)) ∧ Hid (Eqw (w1.alloc (.cells sgB 9)) wr)) (fun _ i _ => zs.length - (intOf i).toNat)
  case atStart => exact ⟨0, by omega, rfl, by rw [str58, str_app]; rfl, rfl⟩
  case round =>
    obtain ⟨j, hj, rfl, rfl, HE⟩ := hrel
    obtain rfl : w1.alloc (.cells sgB 9) = wr := HE.out
    by_cases hlt : j < zs.length
    · rcases HS.out.below G1.out.2 (Nat.le_refl _) with hz | ⟨b, off, rfl, hc⟩
      · subst hz; simp at hlt
      · have hcj := hc j hlt
        have hzb := allW_get HA.out hlt
        have HT := hidd (show txK n zs (j + 1) = txK n zs j ++ [sgn (zs.getD j 0)] from rfl)
        obtain ⟨z, hz⟩ : ∃ z, z = zs.getD j 0 := ⟨_, rfl⟩
        rw [← hz] at hcj hzb HT
        obtain ⟨k, hk, hk3, hkb⟩ := sgn_str z hzb.1 hzb.2
        have cS := G1.out.1.cell hkb
        have hkI : (k : Int) < 3 := by omega
        have hwz : IntKind.i64.wrap (z + 1) = (k : Int) := by rw [← hk]; exact IntWalk.i64_in _ (by omega)
        have hTl := txK_len n zs j
        obtain ⟨T, hT⟩ : ∃ T, T = txK n zs j := ⟨_, rfl⟩
        rw [← hT] at hTl
        have hszz : ¬ 9223372036854775807 < (strOfNums T).size + (strOfNums [sgn z]).size := by rw [strOfNums_size, strOfNums_size, hTl]; simp; omega
        rw [← hT] at HT ⊢
        clear hz hc hkb hT hk hTl
        go_wp2_with fail
        go_roundw
        case rel => exact ⟨j + 1, by omega, by go_num, by rw [str_app, HT.out], rfl⟩
        case measure => simp [intOf]; omega
    · have hje : j = zs.length := by omega
      subst hje
      go_wp2_with fail
      go_ret
      exact ⟨rfl, G1.out.2⟩
end Go.Proofs.YteclbaalejondaaDoor
