/- The component of a point: the model. -/
import Derived.Test.YtkiocedhibeieaaDoorCmm
namespace Go.Proofs.YtkiocedhibeieaaDoor
set_option linter.unusedVariables false
set_option linter.unusedSimpArgs false
open Go Go.RowKit Go.Shelf
def boN : Value → Nat
  | .bool true => 1
  | _ => 0
set_option maxRecDepth 100000 in
set_option maxHeartbeats 2000000 in
theorem comp67 (N : Nat) (F : Nat → Nat) (v : Nat) (ar : Option Addr) (cap : Nat) (zs : List Int) (w : World) (n2 : N ≤ 17) (hv : v < N) (hF : ∀ p, F p < 2 ^ 17)
    (hz : zs.length = N) (hg : ∀ j, j < N → zs.getD j 0 = ((F j : Nat) : Int)) (hs : SlI w ar zs) :
    Calls Tryd.prog 67 #[.slice ar zs.length cap, .int .i64 (v : Int)] w fun e w' => e = .returned (.int .i64 (cmC F N v : Nat)) ∧ w' = w := by
  have hsl := hs
  rcases hsl with hz0 | ⟨bl, off, ha, hc⟩
  · rw [hz0] at hz; simp at hz; omega
  · subst ha
    have HC := hidd (fun j (hj : j < N) => (by rw [hc j (by rw [hz]; exact hj), hg j hj] : w.cell? ⟨bl, off + j, none⟩ = some (.int .i64 ((F j : Nat) : Int))))
    clear hc hg hs
    have HF := hidd hF
    have hln : ((zs.length : Nat) : Int) = (N : Int) := by rw [hz]
    rw [hz]
    have hu : IntKind.u64.wrap (v : Int) = (v : Int) := by unfold IntKind.wrap; simp [IntKind.signed, IntKind.bits]; omega
    have hmn : min v 64 = v := by omega
    obtain ⟨Y, hY⟩ : ∃ Y : Nat, Y = 2 ^ v := ⟨_, rfl⟩
    have hYv : Y < 2 ^ 17 := by rw [hY]; exact Nat.pow_lt_pow_right (by omega) (by omega)
    have hsh : IntKind.i64.wrap (2 ^ v) = (Y : Int) := by rw [show (2 : Int) ^ v = ((2 ^ v : Nat) : Int) by simp, ← hY]; exact IntWalk.i64_in _ (by omega)
    have HY := hidd (show cmS F N v 0 = Y from hY.symm)
    have HX := hidd (fun k => cmS_lt (N := N) (v := v) hF (by omega) k)
    have HE := hidd (fun k (h : cmS F N v (k + 1) = cmS F N v k) => cmC_of hF (by omega) h)
    have HLE := hidd (cmS_le F N v)
    clear hY hF hz hln
    go_enter Tryd.func67, Tryd.ntmps67
    go_wp2_with fail
    go_loopw [5, 6] (fun s g wr => ∃ k : Nat, ∃ b : Bool, s = .int .i64 (cmS F N v k : Nat) ∧ g = .bool b ∧ Hid (b = false → cmC F N v = cmS F N v k) ∧ Hid (wr = w)) (fun s g _ => 2 * (2 ^ 17 - (intOf s).toNat) + boN g)
    case atStart => exact ⟨0, true, by rw [HY.out], rfl, hidd (fun h => absurd h (by simp)), hidd rfl⟩
    case round =>
      obtain ⟨k, b, rfl, rfl, HB, HW⟩ := hrel
      have ew := HW.out
      clear HW
      subst wr
      have HK := hidd (show cmS F N v (k + 1) = grU F (cmS F N v k) N from rfl)
      have HEk := hidd (HE.out k)
      have HLk := hidd (HLE.out k)
      have HXk := hidd (And.intro (HX.out k) (HX.out (k + 1)))
      obtain ⟨S, hS⟩ : ∃ S, S = cmS F N v k := ⟨_, rfl⟩
      have HSE := hidd hS
      rw [← hS] at HB HK HEk HLk HXk ⊢
      cases b with
      | true =>
        clear hS
        go_wp2_with fail
        go_loopw [7, 8] (fun gr jj wq => ∃ J : Nat, J ≤ N ∧ jj = .int .i64 (J : Int) ∧ gr = .int .i64 (grU F S J : Nat) ∧ Hid (wq = w)) (fun _ jj _ => N - (intOf jj).toNat)
        case atStart => exact ⟨0, by omega, rfl, by rw [grU_zero], hidd rfl⟩
        case round =>
          obtain ⟨J, hJ, rfl, rfl, HW2⟩ := hrel
          have ew2 := HW2.out
          clear HW2
          subst wr
          by_cases hlt : J < N
          · have hltJ : decide ((J : Int) < (N : Int)) = true := by simp; omega
            have hcj := HC.out J hlt
            have hS17 := HXk.out.1
            have hG17 : grU F S J < 2 ^ 17 := Nat.or_lt_two_pow hS17 (arU_lt HF.out J)
            have hF17 := HF.out J
            have hbt := bit_test S J (by omega)
            have hu2 : IntKind.u64.wrap (J : Int) = (J : Int) := by unfold IntKind.wrap; simp [IntKind.signed, IntKind.bits]; omega
            have hmn2 : min J 64 = J := by omega
            have hor := i64_or_nat (grU F S J) (F J) (by omega) (by omega)
            cases hb : S.testBit J with
            | true =>
              have hb3 := hbt.trans hb
              have HG := hidd (grU_yes (F := F) hb)
              rw [← HG.out] at hor
              generalize grU F S J = G at hor hG17 HG ⊢
              generalize F J = A at hcj hor hF17
              obtain ⟨G2, hG2⟩ : ∃ G2, G2 = grU F S (J + 1) := ⟨_, rfl⟩
              rw [← hG2] at hor
              have HG2 := hidd hG2
              clear hbt hb HG hS17 hG17 hF17 hG2
              go_wp2_with fail
              go_roundw
              case rel => exact ⟨J + 1, by omega, by go_num, by rw [HG2.out], hidd trivial⟩
              case measure => simp [intOf]; omega
            | false =>
              have hb3 := hbt.trans hb
              have HG := hidd (grU_no (F := F) hb)
              generalize grU F S J = G at hor hG17 HG ⊢
              clear hbt hb hS17 hG17 hF17 hor
              go_wp2_with fail
              go_roundw
              case rel => exact ⟨J + 1, by omega, by go_num, by rw [HG.out], hidd trivial⟩
              case measure => simp [intOf]; omega
          · have hltJ : decide ((J : Int) < (N : Int)) = false := by simp; omega
            have hJe : J = N := by omega
            subst hJe
            have HG := HK.out
            rw [← HG]
            obtain ⟨T, hT⟩ : ∃ T, T = cmS F J v (k + 1) := ⟨_, rfl⟩
            have HT := hidd hT
            rw [← hT] at HEk HLk HXk ⊢
            clear HG hT HK
            cases hq : ((T : Int) != (S : Int)) with
            | true =>
              go_wp2_with fail
              go_roundw
              case rel => exact ⟨k + 1, true, by rw [HT.out], rfl, hidd (fun h => absurd h (by simp)), hidd trivial⟩
              case measure =>
                have h1 := HXk.out
                have h2 := HLk.out
                have h3 : T ≠ S := fun e => by rw [e] at hq; simp at hq
                simp [intOf, boN]; omega
            | false =>
              have HTS := hidd (by have h := hq; simp at h; omega : T = S)
              go_wp2_with fail
              go_roundw
              case rel => exact ⟨k + 1, false, by rw [HT.out], rfl, hidd (fun _ => by rw [HEk.out HTS.out, ← HTS.out, HT.out]), hidd trivial⟩
              case measure =>
                have h1 := HTS.out
                simp [intOf, boN, h1]
      | false =>
        have HD := hidd (HB.out rfl)
        clear hS
        go_wp2_with fail
        go_ret
        exact ⟨by rw [HD.out]; rfl, rfl⟩
end Go.Proofs.YtkiocedhibeieaaDoor
