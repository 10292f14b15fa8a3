/- strconv.AppendInt of one digit. -/
import Derived.Test.YteclbaalejondaaDoorStt
import Derived.Lib.AppendStr
namespace Go.Proofs.YteclbaalejondaaDoor
set_option linter.unusedVariables false
set_option linter.unusedSimpArgs false
open Go Go.RowKit
set_option maxRecDepth 100000 in
set_option maxHeartbeats 1000000 in
theorem small36 (n : Int) (n1 : 1 ≤ n) (n5 : n ≤ 5) (w : World) : Calls Tryd.prog 36 #[.int .i64 n] w fun e w' => e = .returned (.string (strOfNums [48 + n])) ∧ w = w' := by
  rcases (show n = 1 ∨ n = 2 ∨ n = 3 ∨ n = 4 ∨ n = 5 by omega) with rfl | rfl | rfl | rfl | rfl
  all_goals
    go_enter Tryd.func36, Tryd.ntmps36
    go_wp2
    go_ret
    exact ⟨by kernel_rfl, rfl⟩
/-- Bytes as cells. -/
def bI (bs : List Int) : List Value := bs.map (Value.int .u8)
theorem bI_app (a b : List Int) : bI (a ++ b) = bI a ++ bI b := by simp [bI]
theorem bI_len (a : List Int) : (bI a).length = a.length := by simp [bI]
theorem cells_dig (n : Int) (n1 : 1 ≤ n) (n5 : n ≤ 5) : Lib.strCells (strOfNums [48 + n]) = bI [48 + n] := by
  rcases (show n = 1 ∨ n = 2 ∨ n = 3 ∨ n = 4 ∨ n = 5 by omega) with rfl | rfl | rfl | rfl | rfl <;> rfl
theorem info5 : (Tryd.prog.info? 5).map (fun i => (i.zero, i.size, i.bytes)) = some (some (.int .u8 0), 1, 1) := by kernel_rfl
/-- A list of bytes of the call's own. -/
def LByt (w : World) (bs : List Int) (e : Ending) (w' : World) : Prop := ∃ v, e = .returned v ∧ w'.ownsRow w.heap.size 5 1 v bs.length (bI bs) ∧ Below w.heap.size w w'
theorem nil_own (w : World) (B : Nat) : w.ownsRow B 5 1 (.slice none 0 0) 0 [] := ⟨rfl, .inl ⟨rfl, rfl⟩⟩
set_option maxRecDepth 100000 in
set_option maxHeartbeats 1000000 in
theorem appu33 (n : Int) (n1 : 1 ≤ n) (n5 : n ≤ 5) (w : World) : Calls Tryd.prog 33 #[.slice none 0 0, .int .u64 n, .int .i64 10] w (LByt w [48 + n]) := by
  have HS := hidd (fun w => small36 n n1 n5 w)
  have HC := hidd (cells_dig n n1 n5)
  obtain ⟨t0, hi2, hz0, hz1, hz3⟩ := info_parts info5
  have HIF := hidd (And.intro hi2 (And.intro hz0 (And.intro hz1 hz3)))
  have hwn : IntKind.i64.wrap n = n := IntWalk.i64_in _ (by omega)
  clear hi2 hz0 hz1 hz3
  go_enter Tryd.func33, Tryd.ntmps33
  go_wp2_with fail
  refine (HS.out _).mono ?_
  rintro e w' ⟨rfl, rfl⟩
  go_wp2_with (at_builtin; refine Lib.wpList_append_own_string _ rfl (.tmp 13) (.tmp 16) 42 9 rfl w.heap.size 5 t0 Tryd.underlying42 Tryd.underlying9 HIF.out.1 HIF.out.2.1 HIF.out.2.2.1 HIF.out.2.2.2 (.slice none 0 0) 0 [] rfl (nil_own _ _) _ rfl ?c1 ?c2 ?c3 ?_)
  case c1 => rw [strOfNums_size]; unfold maxLen; simp
  case c2 => rw [strOfNums_size]; simp
  case c3 => exact Nat.le_refl _
  intro v' w2 hown hgrow _
  have R := hidd (show w2.ownsRow w.heap.size 5 1 v' 1 (bI [48 + n]) ∧ Below w.heap.size w w2 from ⟨by rw [strOfNums_size, HC.out] at hown; simpa using hown, (Below.refl _ _).grown hgrow (by simp) (fun k hk => by simp [Value.ownBlock] at hk)⟩)
  clear hown hgrow
  go_wp2
  go_ret
  exact ⟨v', rfl, R.out.1, R.out.2⟩
theorem appi26 (n : Int) (n1 : 1 ≤ n) (n5 : n ≤ 5) (w : World) : Calls Tryd.prog 26 #[.slice none 0 0, .int .i64 n, .int .i64 10] w (LByt w [48 + n]) := by
  have HA := hidd (fun w => appu33 n n1 n5 w)
  have hwn : IntKind.u64.wrap n = n := by simp [IntKind.wrap, IntKind.bits, IntKind.signed]; omega
  have hd : decide (n < 0) = false := by simp; omega
  go_enter Tryd.func26, Tryd.ntmps26
  go_wp2_with fail
  refine (HA.out _).mono ?_
  rintro e w2 ⟨v, rfl, h1, h2⟩
  have R := hidd (And.intro h1 h2)
  clear h1 h2
  go_wp2
  go_ret
  exact ⟨v, rfl, R.out.1, R.out.2⟩
theorem appi17 (n : Int) (n1 : 1 ≤ n) (n5 : n ≤ 5) (w : World) : Calls Tryd.prog 17 #[.slice none 0 0, .int .i64 n, .int .i64 10] w (LByt w [48 + n]) := by
  have HA := hidd (fun w => appi26 n n1 n5 w)
  go_enter Tryd.func17, Tryd.ntmps17
  go_wp2_with fail
  refine (HA.out _).mono ?_
  rintro e w2 ⟨v, rfl, h1, h2⟩
  have R := hidd (And.intro h1 h2)
  clear h1 h2
  go_wp2
  go_ret
  exact ⟨v, rfl, R.out.1, R.out.2⟩
end Go.Proofs.YteclbaalejondaaDoor
