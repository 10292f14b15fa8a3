/- strconv.AppendInt of a number below twenty. -/
import Derived.Test.YtilpfhiebbbbjaaDoorCtx
import Derived.Lib.AppendStr
namespace Go.Proofs.YtilpfhiebbbbjaaDoor
set_option linter.unusedVariables false
set_option linter.unusedSimpArgs false
open Go Go.RowKit
set_option maxRecDepth 100000 in
set_option maxHeartbeats 4000000 in
theorem small36 (n : Int) (n1 : 1 ≤ n) (n5 : n ≤ 17) (w : World) : Calls Tryd.prog 24 #[.int .i64 n] w fun e w' => e = .returned (.string (strOfNums (dg n))) ∧ w = w' := by
  rcases (show n = 1 ∨ n = 2 ∨ n = 3 ∨ n = 4 ∨ n = 5 ∨ n = 6 ∨ n = 7 ∨ n = 8 ∨ n = 9 ∨ n = 10 ∨ n = 11 ∨ n = 12 ∨ n = 13 ∨ n = 14 ∨ n = 15 ∨ n = 16 ∨ n = 17 by omega) with rfl | rfl | rfl | rfl | rfl | rfl | rfl | rfl | rfl | rfl | rfl | rfl | rfl | rfl | rfl | rfl | rfl
  all_goals
    go_enter Tryd.func24, Tryd.ntmps24
    go_wp2
    go_ret
    exact ⟨by kernel_rfl, rfl⟩
theorem cells_dig (n : Int) (n1 : 1 ≤ n) (n5 : n ≤ 17) : Lib.strCells (strOfNums (dg n)) = bI (dg n) := by
  rcases (show n = 1 ∨ n = 2 ∨ n = 3 ∨ n = 4 ∨ n = 5 ∨ n = 6 ∨ n = 7 ∨ n = 8 ∨ n = 9 ∨ n = 10 ∨ n = 11 ∨ n = 12 ∨ n = 13 ∨ n = 14 ∨ n = 15 ∨ n = 16 ∨ n = 17 by omega) with rfl | rfl | rfl | rfl | rfl | rfl | rfl | rfl | rfl | rfl | rfl | rfl | rfl | rfl | rfl | rfl | rfl <;> rfl
theorem info5 : (Tryd.prog.info? 5).map (fun i => (i.zero, i.size, i.bytes)) = some (some (.int .u8 0), 1, 1) := by kernel_rfl
/-- Bytes put behind a list of bytes of one's own. -/
def LApp (B : Nat) (v : Value) (bs d : List Int) (w : World) (e : Ending) (w' : World) : Prop := ∃ v', e = .returned v' ∧ w'.ownsRow B 5 1 v' (bs.length + d.length) (bI (bs ++ d)) ∧ w.grownBy w' v.ownBlock
theorem nil_own (w : World) (B : Nat) : w.ownsRow B 5 1 (.slice none 0 0) 0 [] := ⟨rfl, .inl ⟨rfl, rfl⟩⟩
set_option maxRecDepth 100000 in
set_option maxHeartbeats 1000000 in
theorem appu33 (n : Int) (n1 : 1 ≤ n) (n5 : n ≤ 17) (B : Nat) (v : Value) (bs : List Int) (hl : bs.length ≤ 3) (w : World) (hB : B ≤ w.heap.size) (hown : w.ownsRow B 5 1 v bs.length (bI bs)) :
    Calls Tryd.prog 23 #[v, .int .u64 n, .int .i64 10] w (LApp B v bs (dg n) w) := by
  have HS := hidd (fun w => small36 n n1 n5 w)
  have HC := hidd (cells_dig n n1 n5)
  have HO := hidd hown
  have hd2 := dg_len n
  obtain ⟨d, hd⟩ : ∃ d, d = dg n := ⟨_, rfl⟩
  rw [← hd] at HS HC hd2
  rw [← hd]
  obtain ⟨t0, hi2, hz0, hz1, hz3⟩ := info_parts info5
  have HIF := hidd (And.intro hi2 (And.intro hz0 (And.intro hz1 hz3)))
  have hwn : IntKind.i64.wrap n = n := IntWalk.i64_in _ (by omega)
  clear hi2 hz0 hz1 hz3 hd hown
  go_enter Tryd.func23, Tryd.ntmps23
  go_wp2_with fail
  refine (HS.out _).mono ?_
  rintro e w' ⟨rfl, rfl⟩
  go_wp2_with (at_builtin; refine Lib.wpList_append_own_string _ rfl (.tmp 13) (.tmp 16) 38 9 rfl B 5 t0 Tryd.underlying38 Tryd.underlying9 HIF.out.1 HIF.out.2.1 HIF.out.2.2.1 HIF.out.2.2.2 v bs.length (bI bs) rfl HO.out _ rfl ?c1 ?c2 ?c3 ?_)
  case c1 => rw [strOfNums_size]; unfold maxLen; omega
  case c2 => rw [strOfNums_size]; omega
  case c3 => exact hB
  intro v' w2 hown hgrow _
  have R := hidd (show w2.ownsRow B 5 1 v' (bs.length + d.length) (bI (bs ++ d)) ∧ w.grownBy w2 v.ownBlock from ⟨by rw [strOfNums_size, HC.out, ← bI_app] at hown; exact hown, hgrow⟩)
  clear hown hgrow
  go_wp2
  go_ret
  exact ⟨v', rfl, R.out.1, R.out.2⟩
theorem appi26 (n : Int) (n1 : 1 ≤ n) (n5 : n ≤ 17) (B : Nat) (v : Value) (bs : List Int) (hl : bs.length ≤ 3) (w : World) (hB : B ≤ w.heap.size) (hown : w.ownsRow B 5 1 v bs.length (bI bs)) :
    Calls Tryd.prog 21 #[v, .int .i64 n, .int .i64 10] w (LApp B v bs (dg n) w) := by
  have HA := hidd (appu33 n n1 n5 B v bs hl w hB hown)
  have hwn : IntKind.u64.wrap n = n := by simp [IntKind.wrap, IntKind.bits, IntKind.signed]; omega
  have hd : decide (n < 0) = false := by simp; omega
  clear hown
  go_enter Tryd.func21, Tryd.ntmps21
  go_wp2_with fail
  refine (HA.out).mono ?_
  rintro e w2 ⟨v2, rfl, h1, h2⟩
  have R := hidd (And.intro h1 h2)
  clear h1 h2
  go_wp2
  go_ret
  exact ⟨v2, rfl, R.out.1, R.out.2⟩
theorem appi17 (n : Int) (n1 : 1 ≤ n) (n5 : n ≤ 17) (B : Nat) (v : Value) (bs : List Int) (hl : bs.length ≤ 3) (w : World) (hB : B ≤ w.heap.size) (hown : w.ownsRow B 5 1 v bs.length (bI bs)) :
    Calls Tryd.prog 17 #[v, .int .i64 n, .int .i64 10] w (LApp B v bs (dg n) w) := by
  have HA := hidd (appi26 n n1 n5 B v bs hl w hB hown)
  clear hown
  go_enter Tryd.func17, Tryd.ntmps17
  go_wp2_with fail
  refine (HA.out).mono ?_
  rintro e w2 ⟨v2, rfl, h1, h2⟩
  have R := hidd (And.intro h1 h2)
  clear h1 h2
  go_wp2
  go_ret
  exact ⟨v2, rfl, R.out.1, R.out.2⟩
end Go.Proofs.YtilpfhiebbbbjaaDoor
