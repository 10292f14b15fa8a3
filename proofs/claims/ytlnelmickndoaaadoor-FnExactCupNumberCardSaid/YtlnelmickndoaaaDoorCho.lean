/- The model's choose. -/
import Derived.Test.YtlnelmickndoaaaDoorMst
namespace Go.Proofs.YtlnelmickndoaaaDoor
set_option linter.unusedVariables false
set_option linter.unusedSimpArgs false
open Go Go.RowKit
/-- The model's product behind i rounds. -/
def cho8 (n : Int) : Nat → Int
  | 0 => 1
  | i + 1 => cho8 n i * (n - i) / ((i : Int) + 1)
set_option maxRecDepth 100000 in
set_option maxHeartbeats 1000000 in
theorem choose30 (n : Int) (k : Nat) (w : World) (hn0 : 0 ≤ n) (hn : n ≤ 1000000) (hk : k ≤ 1000000) (hb : ∀ i : Nat, i < k → 0 ≤ cho8 n i * (n - i) ∧ cho8 n i * (n - i) ≤ 4611686018427387904) :
    Calls Tryd.prog 7 #[.int .i64 n, .int .i64 k] w fun e w' => e = .returned (.int .i64 (cho8 n k)) ∧ w = w' := by
  have HB := hidd hb
  clear hb
  go_enter Tryd.func7, Tryd.ntmps7
  go_wp2_with fail
  go_loop [5, 6] (fun o i => ∃ j : Nat, j ≤ k ∧ i = .int .i64 (j : Int) ∧ o = .int .i64 (cho8 n j)) (fun o i => k - (intOf i).toNat)
  case atStart => exact ⟨0, by omega, rfl, rfl⟩
  case round =>
    obtain ⟨j, hj, rfl, rfl⟩ := hrel
    by_cases hlt : j < k
    · have h5 := HB.out j hlt
      have HT := hidd (show cho8 n (j + 1) = cho8 n j * (n - j) / ((j : Int) + 1) from rfl)
      obtain ⟨s, hs⟩ : ∃ s, s = cho8 n j := ⟨_, rfl⟩
      rw [← hs] at h5 HT ⊢
      have HS := hidd hs
      clear hs
      go_wp2_with fail
      have h7 : s * (n - (j : Int)) / ((j : Int) + 1) ≤ s * (n - (j : Int)) := Int.ediv_le_self _ h5.1
      have h8 : 0 ≤ s * (n - (j : Int)) / ((j : Int) + 1) := Int.ediv_nonneg h5.1 (by omega)
      exact ⟨⟨j + 1, by omega, by go_num, by rw [HT.out]⟩, by simp [intOf]; omega⟩
    · have hje : j = k := by omega
      subst hje
      go_wp2_with fail
      go_ret
      exact ⟨rfl, rfl⟩
end Go.Proofs.YtlnelmickndoaaaDoor
