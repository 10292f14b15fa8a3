/- l02Count: the walk, by recursion on the number of points that are still to be taken. -/
import Derived.Test.YthohkfdloinlmaaCount
namespace Go.Proofs.Ythohkfdloinlmaa
set_option linter.unusedVariables false
set_option linter.unusedSimpArgs false
open Go Go.RowKit Go.Shelf
theorem xor_bit {X Y j : Nat} (hX : X < 2 ^ 17) (hj : j < 17) (h : X ^^^ 2 ^ j = Y) : bits .xor .i64 (X : Int) (wrap64 (2 ^ j)) = (Y : Int) := by
  subst h
  have h2 : 2 ^ j < 2 ^ 17 := Nat.pow_lt_pow_right (by omega) hj
  have e : (2 : Int) ^ j = ((2 ^ j : Nat) : Int) := by simp
  rw [e]
  generalize 2 ^ j = y at *
  rw [IntWalk.wrap64_in _ ⟨by omega, by omega⟩]
  exact i64_xor_nat X y (by omega) (by omega)
/-- The rows as a slice of the model. -/
structure Rws (N : Nat) (R : Nat → Nat) (zs : List Int) : Prop where
  len : zs.length = N
  get : ∀ p, p < N → zs.getD p 0 = (R p : Int)
  lt : ∀ p, p < N → R p < 2 ^ 17
theorem hiB_lt {F j : Nat} (h : F < 2 ^ 17) : hiB F j < 2 ^ 17 := Nat.lt_of_le_of_lt (hiB_le _ _) h
theorem hiB_bitj {F j : Nat} : (hiB F j).testBit j = F.testBit j := by rw [hiB_bit]; simp
set_option maxRecDepth 100000 in
set_option maxHeartbeats 2000000 in
theorem count22 (N : Nat) (hN : N ≤ 17) (R : Nat → Nat) (zs : List Int) (hz : Rws N R zs) (a : Option Addr) (cap : Nat) : ∀ (m : Nat), m ≤ 14 → ∀ (F : Nat), F < 2 ^ 17 → ∀ (w : World), SlI w a zs →
    Calls Try.prog 22 #[.slice a N cap, .int .i64 (F : Int), .int .i64 (m : Int)] w fun e w' => e = .returned (.int .i64 ((cC R N m F : Nat) : Int)) ∧ w = w'
  | 0, _, F, hF, w, hs => by
    go_enter Try.func22, Try.ntmps22
    go_wp2_with fail
    go_ret
    exact ⟨rfl, rfl⟩
  | m + 1, hm, F, hF, w, hs => by
    have HR := hidd (fun F hF => count22 N hN R zs hz a cap m (by omega) F hF w hs)
    have HS := hidd hs
    have HZ := hidd hz
    obtain ⟨M, hM⟩ : ∃ M : Nat, M = m + 1 := ⟨_, rfl⟩
    rw [← hM]
    have hm0 : ((M : Int) == 0) = false := by rw [beq_eq_false_iff_ne]; omega
    have hM1 : (M : Int) - 1 = (m : Int) := by omega
    have HM := hidd hM
    have HP := hidd (pow17 (show m ≤ 14 by omega))
    clear hs hz hM
    go_enter Try.func22, Try.ntmps22
    go_wp2_with fail
    go_loopw [1, 7, 8] (fun f c e wr => ∃ j : Nat, j ≤ N ∧ f = .int .i64 (hiB F j : Nat) ∧ c = .int .i64 ((sm (cT R N m F) j : Nat) : Int) ∧ e = .int .i64 (j : Int) ∧ Hid (w = wr)) (fun _ _ e _ => N - (intOf e).toNat)
    case atStart => exact ⟨0, by omega, by rw [hiB_zero], rfl, rfl, rfl⟩
    case round =>
      obtain ⟨j, hj, rfl, rfl, rfl, hww⟩ := hrel
      obtain rfl : w = wr := hww
      obtain ⟨X, hX⟩ : ∃ X, X = hiB F j := ⟨_, rfl⟩
      obtain ⟨c, hc⟩ : ∃ c, c = sm (cT R N m F) j := ⟨_, rfl⟩
      have hX17 : X < 2 ^ 17 := by rw [hX]; exact hiB_lt hF
      have HC := hidd (show c ≤ 17 * 17 ^ m by rw [hc]; exact sm_part hN (by omega))
      rw [← hX, ← hc]
      by_cases hlt : j < N
      · have HO := hidd (fun W => ones65 X W (by omega))
        obtain ⟨o, ho⟩ : ∃ o, o = ones X := ⟨_, rfl⟩
        rw [← ho] at HO
        by_cases hge : m + 1 ≤ o
        · have hgI : decide ((M : Int) ≤ (o : Int)) = true := by have := HM.out; simp; omega
          cases hbit : X.testBit j with
          | true =>
            have hFb : F.testBit j = true := by rw [← hbit, hX, hiB_bitj]
            have hbt := (bit_test X j (by omega)).trans hbit
            have hxor := xor_bit (j := j) (Y := hiB F (j + 1)) hX17 (by omega) (by rw [hX]; exact hiB_take hFb)
            obtain ⟨Y, hY⟩ : ∃ Y, Y = hiB F (j + 1) := ⟨_, rfl⟩
            have hY17 : Y < 2 ^ 17 := by rw [hY]; exact hiB_lt hF
            obtain ⟨r, hr⟩ : ∃ r, r = R j := ⟨_, rfl⟩
            have hr17 : r < 2 ^ 17 := by rw [hr]; exact HZ.out.lt j hlt
            have hand := i64_and_nat Y r (by omega) (by omega)
            have hA17 : Y &&& r < 2 ^ 17 := Nat.lt_of_le_of_lt Nat.and_le_left hY17
            have hst := cT_take (R := R) (N := N) (m := m) hFb
            rw [← hc, ← hY, ← hr] at hst
            obtain ⟨Z, hZ⟩ : ∃ Z, Z = Y &&& r := ⟨_, rfl⟩
            rw [← hZ] at hand hA17 hst
            have HCR := hidd (HR.out Z hA17)
            have hcl := cC_le (R := R) hN m Z
            obtain ⟨v, hv⟩ : ∃ v, v = cC R N m Z := ⟨_, rfl⟩
            rw [← hv] at HCR hst hcl
            have HST := hidd hst
            have hsum : (c : Int) + (v : Int) ≤ 4611686018427387904 := by have := HP.out; have := HC.out; omega
            rw [← hY] at hxor
            rcases HS.out with hz0 | ⟨bl, off, ha, hcell⟩
            · have := HZ.out.len; rw [hz0] at this; simp at this; omega
            · subst ha
              have cj := hcell j (by have := HZ.out.len; omega)
              rw [HZ.out.get j hlt, ← hr] at cj
              have hwm : IntKind.i64.wrap (m : Int) = m := IntWalk.i64_in _ (by omega)
              have HY := hidd hY
              clear hcell hst hcl hr hZ hv hY hX hc ho hbit hFb
              go_wp2_with (first
                | (go_at_call 39; refine (HO.out _).mono ?_; rintro e w' ⟨rfl, rfl⟩)
                | (go_at_call 22; refine HCR.out.mono ?_; rintro e w' ⟨rfl, rfl⟩))
              go_roundw
              case rel => exact ⟨j + 1, by omega, by rw [HY.out], by rw [HST.out]; go_num, by go_num, trivial⟩
              case measure => simp [intOf]; omega
          | false =>
            have hFb : F.testBit j = false := by rw [← hbit, hX, hiB_bitj]
            have hbt := (bit_test X j (by omega)).trans hbit
            have HST := hidd (cT_skip (R := R) (N := N) (m := m) hFb)
            have HX := hidd (hiB_skip hFb)
            have HE := hidd (And.intro hX hc)
            clear hX hc ho hbit hFb
            go_wp2_with (go_at_call 39; refine (HO.out _).mono ?_; rintro e w' ⟨rfl, rfl⟩)
            go_roundw
            case rel => exact ⟨j + 1, by omega, by rw [HX.out, HE.out.1], by rw [HST.out, HE.out.2], by go_num, trivial⟩
            case measure => simp [intOf]; omega
        · have hgI : decide ((M : Int) ≤ (o : Int)) = false := by have := HM.out; simp; omega
          have HST := hidd (cC_stop (R := R) (N := N) (m := m) hN hF (Nat.le_of_lt hlt) (by rw [← hX, ← ho]; omega))
          have HE := hidd hc
          clear hX hc ho
          go_wp2_with (go_at_call 39; refine (HO.out _).mono ?_; rintro e w' ⟨rfl, rfl⟩)
          go_ret
          exact ⟨by rw [HM.out, HST.out, ← HE.out]; rfl, rfl⟩
      · have hje : j = N := by omega
        subst hje
        have HE := hidd hc
        clear hX hc
        go_wp2_with fail
        go_ret
        exact ⟨by rw [HM.out, cC_succ, ← HE.out]; rfl, rfl⟩
end Go.Proofs.Ythohkfdloinlmaa
