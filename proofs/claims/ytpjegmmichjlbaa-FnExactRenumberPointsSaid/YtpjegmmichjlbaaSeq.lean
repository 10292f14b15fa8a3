/- slices.Values, slices.Collect: a list handed on as a function, and gathered again. -/
import Derived.Test.YtpjegmmichjlbaaFence
import Derived.Test.YtpjegmmichjlbaaNbr
import Derived.Test.YtpjegmmichjlbaaOwn
import Derived.RangeFuncBox
import Derived.RangeFuncLeaves
import Derived.OwnWalkIn
import Derived.TacticsInMore
namespace Go.Proofs.Ytpjegmmichjlbaa
set_option linter.unusedVariables false
set_option linter.unusedSimpArgs false
open Go Go.RowKit Go.Shelf
/-- A list that lies below a bound. -/
def SlB (B : Nat) (w : World) (a : Option Addr) (zs : List Int) : Prop := zs = [] ∨ ∃ b off, a = some ⟨b, off, none⟩ ∧ b < B ∧ ∀ j, j < zs.length → w.cell? ⟨b, off + j, none⟩ = some (.int .i64 (zs.getD j 0))
theorem SlB.below {B : Nat} {w w' : World} {a : Option Addr} {zs : List Int} (h : SlB B w a zs) (hb : Below B w w') : SlB B w' a zs := by
  rcases h with h | ⟨b, off, ha, hlt, hc⟩
  · exact .inl h
  · exact .inr ⟨b, off, ha, hlt, fun j hj => (hb.cell (p := ⟨b, off + j, none⟩) hlt).trans (hc j hj)⟩
theorem SlI.toB {w : World} {a : Option Addr} {zs : List Int} (h : SlI w a zs) : SlB w.heap.size w a zs := by
  rcases h with h | ⟨b, off, ha, hc⟩
  · exact .inl h
  · by_cases h0 : zs.length = 0
    · exact .inl (List.length_eq_zero_iff.1 h0)
    · exact .inr ⟨b, off, ha, block_lt_of_cell (hc 0 (by omega)), hc⟩
set_option maxRecDepth 100000 in
set_option maxHeartbeats 1000000 in
theorem iterV (m l B b : Nat) (zs : List Int) (a : Option Addr) (cap : Nat) (hl : zs.length ≤ 9223372036854775807) (J Jx : List Int → World → Prop)
    (hY : ∀ pre x W, J pre W → pre.length < zs.length → YieldAt Fence.wide m Try.prog l #[.int .i64 x] W fun e W' =>
      (e = .returned (.bool true) ∧ J (pre ++ [x]) W' ∧ Below B W W') ∨ (e = .returned (.bool false) ∧ Jx (pre ++ [x]) W'))
    (W : World) (hB : W.cell? ⟨b, 0, none⟩ = some (.slice a zs.length cap)) (hs : SlB B W a zs) (h0 : J [] W) :
    CallsIn Fence.wide (m + 1) Try.prog 90 #[.func (.yield l) #[] #[], .pointer (some ⟨b, 0, none⟩)] W fun e W' => (∃ v, e = .returned v) ∧
      ((∃ ys : List Int, ys = zs ∧ J ys W') ∨ (∃ pre, True ∧ Jx pre W')) := by
  refine callsIn_of_wp Try.func90 rfl trivial ?_ rfl
  simp only [Try.ntmps90, List.size_toArray, List.length_cons, List.length_nil, Nat.reduceAdd, Nat.reduceSub, Array.replicate_succ, Array.replicate_zero, List.push_toArray, List.append_toArray, List.nil_append, List.cons_append]
  have HY := hidd hY
  have HS := hidd hs
  clear hY hs
  gi_wp2
  clear hB
  gi_loopw [7] (fun e wr => ∃ j : Nat, j ≤ zs.length ∧ e = .int .i64 j ∧ Hid (J (zs.take j) wr ∧ SlB B wr a zs)) (fun e _ => zs.length - (intOf e).toNat)
  case atStart => exact ⟨0, by omega, rfl, by rw [List.take_zero]; exact ⟨h0, HS.out⟩⟩
  case round =>
    obtain ⟨j, hj, rfl, HR⟩ := hrel
    by_cases hlt : j < zs.length
    · rcases HR.out.2 with hz | ⟨bl, off, ha, hlb, hc⟩
      · subst hz; simp at hlt
      · subst ha
        have hcj := hc j hlt
        obtain ⟨z, hz⟩ : ∃ z, z = zs.getD j 0 := ⟨_, rfl⟩
        rw [← hz] at hcj
        have HT := hidd (show zs.take (j + 1) = zs.take j ++ [z] by
          rw [List.take_succ_eq_append_getElem hlt, hz]; simp [List.getD, List.getElem?_eq_getElem hlt])
        obtain ⟨fn, tmps, assign, body, hy, hR⟩ := HY.out (zs.take j) z wr HR.out.1 (by simp; omega)
        have HRR := hidd hR
        clear hR hc hz
        gi_wp2
        refine HRR.out.mono ?_
        rintro e W3 (⟨rfl, hJ3, hk3⟩ | ⟨rfl, hx3⟩)
        · have K3 := hidd (And.intro (show J (zs.take (j + 1)) W3 by rw [HT.out]; exact hJ3) (HR.out.2.below hk3))
          clear hJ3 hk3
          gi_wp2
          go_roundw
          case rel => exact ⟨j + 1, by omega, by go_num, K3⟩
          case measure => simp [intOf]; omega
        · have X3 := hidd hx3
          clear hx3
          gi_wp2
          refine bodyPost_ret (results_none rfl _ _ _) rfl ?_
          exact ⟨⟨_, rfl⟩, .inr ⟨_, trivial, X3.out⟩⟩
    · have hje : j = zs.length := by omega
      subst hje
      have K := hidd HR.out.1
      gi_wp2
      go_end0
      exact ⟨⟨_, rfl⟩, .inl ⟨_, List.take_length, K.out⟩⟩
theorem seqV (m b B : Nat) (zs : List Int) (a : Option Addr) (cap : Nat) (hl : zs.length ≤ 9223372036854775807) (w : World) (hbw : b < w.heap.size) (hBw : B ≤ w.heap.size) (hB : w.cell? ⟨b, 0, none⟩ = some (.slice a zs.length cap)) (hs : SlB B w a zs) :
    SeqStopsK Fence.wide (m + 1) Try.prog 90 #[.pointer (some ⟨b, 0, none⟩)] (fun x : Int => #[.int .i64 x]) (Below B) (fun ys => ys = zs) (fun _ => True) zs.length w := fun l J Jx W hW _ _ hY h0 =>
  iterV m l B b zs a cap hl J Jx hY W ((hW.cell (p := ⟨b, 0, none⟩) hbw).trans hB) (hs.below (hW.mono hBw)) h0
set_option maxRecDepth 100000 in
theorem values84 (a : Option Addr) (len cap : Nat) (w : World) : Calls Try.prog 84 #[.slice a len cap] w fun e w' => e = .returned (.func (.func 90) #[] #[.pointer (some ⟨w.heap.size, 0, none⟩)]) ∧ w.alloc (.cells #[.slice a len cap] 38) = w' := by
  have hmf : ∀ (fn : Fn) (first cap : Array Value) (w : World), (Instr.makeFunc fn first cap).run Try.prog w = .ok (.func fn first cap) w := fun _ _ _ _ => rfl
  go_enter Try.func84, Try.ntmps84
  go_wp2
  go_ret
  exact ⟨rfl, rfl⟩
end Go.Proofs.Ytpjegmmichjlbaa
