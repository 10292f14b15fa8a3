/- Lists of lists: their size, copies, comparison. -/
import Derived.Test.YtljlbonoohhhdaaCop
namespace Go.Proofs.Ytljlbonoohhhdaa
set_option linter.unusedVariables false
set_option linter.unusedSimpArgs false
open Go Go.RowKit Go.Shelf
attribute [local go_sem] Oper.semAt_some
set_option maxRecDepth 100000 in
theorem sz35 (a : Option Addr) (n cap : Nat) (left : Int) (w : World) (hn : n ≤ 9223372036854775807) (h0 : 0 ≤ left) (h1 : left ≤ 1048576) :
    Calls Try.prog 35 #[.slice a n cap, .int .i64 left] w fun e w' => e = .returned (.int .i64 (if left - n < 0 then -1 else left - n)) ∧ w = w' := by
  have hw : IntKind.i64.wrap (left - (n : Int)) = left - (n : Int) := IntWalk.i64_in _ (by omega)
  by_cases h : left - (n : Int) < 0
  · rw [if_pos h]
    have hd : decide (left - (n : Int) < 0) = true := decide_eq_true h
    go_enter Try.func35, Try.ntmps35
    go_wp2_with fail
    go_ret
    exact ⟨rfl, rfl⟩
  · rw [if_neg h]
    have hd : decide (left - (n : Int) < 0) = false := decide_eq_false h
    go_enter Try.func35, Try.ntmps35
    go_wp2_with fail
    go_ret
    exact ⟨rfl, rfl⟩
/-- Not more than about a million lists, none longer than that. -/
def Sml (L : List (List Int)) : Prop := L.length ≤ 1048576 ∧ ∀ i, i < L.length → (L.getD i []).length ≤ 1048576
set_option maxRecDepth 100000 in
set_option maxHeartbeats 1000000 in
theorem sz17 (L : List (List Int)) (a : Option Addr) (cap : Nat) (w : World) (hs : LLa w a L) (hl : L.length ≤ 9223372036854775807) (hi : ∀ i, i < L.length → (L.getD i []).length ≤ 9223372036854775807) :
    Calls Try.prog 17 #[.slice a L.length cap, .int .i64 1048576] w fun e w' => ∃ r, e = .returned (.int .i64 r) ∧ (0 ≤ r → Sml L) ∧ w = w' := by
  have hw : IntKind.i64.wrap (1048576 - (L.length : Int)) = 1048576 - (L.length : Int) := IntWalk.i64_in _ (by omega)
  by_cases h : 1048576 - (L.length : Int) < 0
  · have hd : decide (1048576 - (L.length : Int) < 0) = true := decide_eq_true h
    clear hs hi
    go_enter Try.func17, Try.ntmps17
    go_wp2_with fail
    go_ret
    exact ⟨-1, rfl, fun h => by omega, rfl⟩
  · have hd : decide (1048576 - (L.length : Int) < 0) = false := decide_eq_false h
    have HS := hidd hs
    have HI := hidd hi
    have HL := hidd (show L.length ≤ 1048576 by omega)
    clear hs hi
    go_enter Try.func17, Try.ntmps17
    go_wp2_with fail
    go_loop [1, 5] (fun r e => ∃ (j : Nat) (left : Int), j ≤ L.length ∧ e = .int .i64 (j : Int) ∧ r = .int .i64 left ∧ 0 ≤ left ∧ left ≤ 1048576 ∧ Hid (∀ i, i < j → (L.getD i []).length ≤ 1048576)) (fun _ e => L.length - (intOf e).toNat)
    case atStart => exact ⟨0, _, Nat.zero_le _, rfl, rfl, by omega, by omega, fun i hi => by omega⟩
    case round =>
      obtain ⟨j, left, hj, rfl, rfl, l0, l1, HP⟩ := hrel
      by_cases hlt : j < L.length
      · rcases HS.out with hz | ⟨g, o, ha, hc⟩
        · subst hz; simp at hlt
        subst ha
        obtain ⟨b, c, hcell, _⟩ := hc j hlt
        have hbd := HI.out j hlt
        obtain ⟨z, hz⟩ : ∃ z, z = (L.getD j []).length := ⟨_, rfl⟩
        have HZ := hidd hz
        rw [← hz] at hcell hbd
        have HSZ := hidd (fun W => sz35 b z c left W hbd l0 l1)
        clear hz hc
        go_wp2_with fail
        refine (HSZ.out _).mono ?_
        rintro e _ ⟨rfl, rfl⟩
        by_cases hn : left - (z : Int) < 0
        · rw [if_pos hn]
          go_wp2_with fail
          go_ret
          exact ⟨-1, rfl, fun h => by omega, rfl⟩
        · rw [if_neg hn]
          have hd2 : decide (left - (z : Int) < 0) = false := decide_eq_false hn
          have HN := hidd (show ∀ i, i < j + 1 → (L.getD i []).length ≤ 1048576 from fun i hi => by
            by_cases e : i = j
            · subst e; rw [← HZ.out]; omega
            · exact HP.out i (by omega))
          go_wp2_with fail
          go_round
          case rel => exact ⟨j + 1, _, by omega, by go_num, rfl, by omega, by omega, HN⟩
          case measure => simp [intOf]; omega
      · obtain rfl : j = L.length := by omega
        go_wp2_with fail
        go_ret
        exact ⟨left, rfl, fun _ => ⟨HL.out, HP.out⟩, rfl⟩
end Go.Proofs.Ytljlbonoohhhdaa
