/- The model's counts, its mover and its triangles. -/
import Derived.Test.YtidengcihakijaaLsc
namespace Go.Proofs.Ytidengcihakijaa
set_option linter.unusedVariables false
set_option linter.unusedSimpArgs false
open Go Go.RowKit
theorem cnt_put {P : Int} {zs : List Int} {k : Nat} (h : zs.getD k 0 = P) : cnt (pw P zs) (k + 1) = cnt (pw P zs) k + 1 := by
  rw [cnt, if_pos (show pw P zs k = true by unfold pw; rw [h, beq_self_eq_true])]
theorem cnt_not {P : Int} {zs : List Int} {k : Nat} (h : zs.getD k 0 ≠ P) : cnt (pw P zs) (k + 1) = cnt (pw P zs) k := by
  rw [cnt, if_neg (show ¬ pw P zs k = true by unfold pw; rw [beq_iff_eq]; exact h), Nat.add_zero]
set_option maxRecDepth 100000 in
set_option maxHeartbeats 1000000 in
theorem counts54 (zs : List Int) (a : Option Addr) (cap : Nat) (w : World) (hs : SlI w a zs) (hl : zs.length ≤ 10) :
    Calls Try.prog 65 #[.slice a zs.length cap] w fun e w' => e = .returned (.tuple #[.int .i64 (cnt (pw 0 zs) zs.length : Nat), .int .i64 (cnt (pw 1 zs) zs.length : Nat)]) ∧ w = w' := by
  have HS := hidd hs
  clear hs
  go_enter Try.func65, Try.ntmps65
  go_wp2_with fail
  go_loopw [4, 5, 6] (fun x y i wr => ∃ j c d : Nat, j ≤ zs.length ∧ i = .int .i64 j ∧ x = .int .i64 c ∧ y = .int .i64 d ∧ c ≤ 10 ∧ d ≤ 10 ∧ Hid (Eqw w wr ∧ c = cnt (pw 0 zs) j ∧ d = cnt (pw 1 zs) j)) (fun _ _ i _ => zs.length - (intOf i).toNat)
  case atStart => exact ⟨0, 0, 0, by omega, rfl, rfl, rfl, by omega, by omega, rfl, rfl, rfl⟩
  case round =>
    obtain ⟨j, c, d, hj, rfl, rfl, rfl, hc10, hd10, HD⟩ := hrel
    obtain rfl : w = wr := HD.out.1
    by_cases hlt : j < zs.length
    · rcases HS.out with hz | ⟨b, off, rfl, hc⟩
      · subst hz; simp at hlt
      · have hcj := hc j hlt
        obtain ⟨z, hz⟩ : ∃ z, z = zs.getD j 0 := ⟨_, rfl⟩
        rw [← hz] at hcj
        have HZ := hidd hz
        clear hz hc
        have e0 := cnt_le (pw 0 zs) (j + 1)
        have e1 := cnt_le (pw 1 zs) (j + 1)
        by_cases z0 : z = 0
        · subst z0
          have HT0 := cnt_put (P := 0) HZ.out.symm
          have HT1 := cnt_not (P := 1) (k := j) (zs := zs) (by rw [← HZ.out]; decide)
          have K := hidd (show Eqw w w ∧ c + 1 = cnt (pw 0 zs) (j + 1) ∧ d = cnt (pw 1 zs) (j + 1) from ⟨rfl, by rw [HT0, HD.out.2.1], by rw [HT1, HD.out.2.2]⟩)
          have hcc : c + 1 ≤ 10 := by have := K.out.2.1; omega
          clear HT0 HT1 HD
          go_wp2_with fail
          go_roundw
          case rel => exact ⟨j + 1, c + 1, d, by omega, by go_num, by go_num, rfl, hcc, hd10, K⟩
          case measure => simp [intOf]; omega
        · have hd0 : (z == 0) = false := by simp [z0]
          by_cases z1 : z = 1
          · subst z1
            have HT0 := cnt_not (P := 0) (k := j) (zs := zs) (by rw [← HZ.out]; decide)
            have HT1 := cnt_put (P := 1) HZ.out.symm
            have K := hidd (show Eqw w w ∧ c = cnt (pw 0 zs) (j + 1) ∧ d + 1 = cnt (pw 1 zs) (j + 1) from ⟨rfl, by rw [HT0, HD.out.2.1], by rw [HT1, HD.out.2.2]⟩)
            have hcc : d + 1 ≤ 10 := by have := K.out.2.2; omega
            clear HT0 HT1 HD
            go_wp2_with fail
            go_roundw
            case rel => exact ⟨j + 1, c, d + 1, by omega, by go_num, rfl, by go_num, hc10, hcc, K⟩
            case measure => simp [intOf]; omega
          · have hd1 : (z == 1) = false := by simp [z1]
            have K := hidd (show Eqw w w ∧ c = cnt (pw 0 zs) (j + 1) ∧ d = cnt (pw 1 zs) (j + 1) from ⟨rfl, by rw [cnt_not (by rw [← HZ.out]; exact z0), HD.out.2.1], by rw [cnt_not (by rw [← HZ.out]; exact z1), HD.out.2.2]⟩)
            clear HD
            go_wp2_with fail
            go_roundw
            case rel => exact ⟨j + 1, c, d, by omega, by go_num, rfl, rfl, hc10, hd10, K⟩
            case measure => simp [intOf]; omega
    · have hje : j = zs.length := by omega
      subst hje
      go_wp2_with fail
      go_ret2
      exact ⟨by rw [← HD.out.2.1, ← HD.out.2.2]; rfl, rfl⟩
theorem mover32 (zs : List Int) (a : Option Addr) (cap : Nat) (w : World) (hs : SlI w a zs) (hl : zs.length ≤ 10) :
    Calls Try.prog 51 #[.slice a zs.length cap] w fun e w' => e = .returned (.int .i64 (mvr zs)) ∧ w = w' := by
  have HC := hidd (counts54 zs a cap w hs hl)
  have e0 := cnt_le (pw 0 zs) zs.length
  have e1 := cnt_le (pw 1 zs) zs.length
  obtain ⟨m, hm⟩ : ∃ m, m = mvr zs := ⟨_, rfl⟩
  unfold mvr at hm
  obtain ⟨c, hc⟩ : ∃ c, c = cnt (pw 0 zs) zs.length := ⟨_, rfl⟩
  obtain ⟨d, hd⟩ : ∃ d, d = cnt (pw 1 zs) zs.length := ⟨_, rfl⟩
  rw [← hc, ← hd] at HC
  rw [← hc] at e0 hm
  rw [← hd] at e1 hm
  have HM := hidd (show m = mvr zs by unfold mvr; rw [hm, hc, hd])
  have hw : IntKind.i64.wrap ((c : Int) - (d : Int)) = m := by rw [hm]; exact IntWalk.i64_in _ (by omega)
  clear hc hd hm
  go_enter Try.func51, Try.ntmps51
  go_wp2_with fail
  refine HC.out.mono ?_
  rintro e w' ⟨rfl, rfl⟩
  go_wp2_with fail
  go_ret
  exact ⟨by rw [← HM.out]; first | rfl | (rw [← hw]; rfl), rfl⟩
end Go.Proofs.Ytidengcihakijaa
