/- slices.Compare: which of two lists is less. -/
import Derived.Test.YtidengcihakijaaItr
namespace Go.Proofs.Ytidengcihakijaa
set_option linter.unusedVariables false
set_option linter.unusedSimpArgs false
open Go Go.RowKit Go.Shelf
def sgnI (x y : Int) : Int := if x < y then -1 else if y < x then 1 else 0
theorem nan61 (x : Int) (w : World) : Calls Try.prog 61 #[.int .i64 x] w fun e w' => e = .returned (.bool false) ∧ w = w' := by
  have hne : (x != x) = false := by simp
  go_enter Try.func61, Try.ntmps61
  go_wp2
  go_ret
  exact ⟨rfl, rfl⟩
set_option maxRecDepth 100000 in
theorem cmp43 (x y : Int) (w : World) : Calls Try.prog 43 #[.int .i64 x, .int .i64 y] w fun e w' => e = .returned (.int .i64 (sgnI x y)) ∧ w = w' := by
  by_cases h1 : x < y
  · have hd : decide (x < y) = true := decide_eq_true h1
    have hs : sgnI x y = -1 := if_pos h1
    rw [hs]
    clear h1 hs
    go_enter Try.func43, Try.ntmps43
    go_wp2_with (first | (go_at_call 61; refine (nan61 _ _).mono ?_; rintro e w' ⟨rfl, rfl⟩))
    go_ret
    exact ⟨rfl, rfl⟩
  · by_cases h2 : y < x
    · have hd : decide (x < y) = false := decide_eq_false h1
      have hd2 : decide (x > y) = true := decide_eq_true h2
      have hd3 : decide (y < x) = true := decide_eq_true h2
      have hs : sgnI x y = 1 := by unfold sgnI; rw [if_neg h1, if_pos h2]
      rw [hs]
      clear h1 h2 hs
      go_enter Try.func43, Try.ntmps43
      go_wp2_with (first | (go_at_call 61; refine (nan61 _ _).mono ?_; rintro e w' ⟨rfl, rfl⟩))
      go_ret
      exact ⟨rfl, rfl⟩
    · have hd : decide (x < y) = false := decide_eq_false h1
      have hd2 : decide (x > y) = false := decide_eq_false h2
      have hd3 : decide (y < x) = false := decide_eq_false h2
      have hs : sgnI x y = 0 := by unfold sgnI; rw [if_neg h1, if_neg h2]
      rw [hs]
      clear h1 h2 hs
      go_enter Try.func43, Try.ntmps43
      go_wp2_with (first | (go_at_call 61; refine (nan61 _ _).mono ?_; rintro e w' ⟨rfl, rfl⟩))
      go_ret
      exact ⟨rfl, rfl⟩
set_option maxRecDepth 100000 in
set_option maxHeartbeats 2000000 in
theorem compare22 (xs ys : List Int) (a : Option Addr) (ca : Nat) (b : Option Addr) (cb : Nat) (w : World) (hx : SlI w a xs) (hy : SlI w b ys) (hl : xs.length = ys.length) (hl2 : xs.length ≤ 1048576) :
    Calls Try.prog 22 #[.slice a xs.length ca, .slice b ys.length cb] w fun e w' => (∃ r : Int, e = .returned (.int .i64 r) ∧ decide (r < 0) = befB xs ys) ∧ w = w' := by
  have HX := hidd hx
  have HY := hidd hy
  have HL := hidd hl
  have HNE := hidd (fun i h1 h2 h3 => befB_ne i xs ys hl h1 h2 h3)
  have HSM := hidd (befB_same xs ys hl)
  obtain ⟨q, hq⟩ : ∃ q, q = befB xs ys := ⟨_, rfl⟩
  rw [← hq] at HNE HSM ⊢
  clear hx hy hl hq
  go_enter Try.func22, Try.ntmps22
  go_wp2_with fail
  go_loopw [11] (fun ii wr => ∃ i : Nat, i ≤ xs.length ∧ ii = .int .i64 (i : Int) ∧ (∀ j, j < i → xs.getD j 0 = ys.getD j 0) ∧ w = wr) (fun ii _ => xs.length - (intOf ii).toNat)
  case atStart => exact ⟨0, Nat.zero_le _, rfl, fun j hj => by omega, rfl⟩
  case round =>
    obtain ⟨i, hi, rfl, hsame, hww⟩ := hrel
    obtain rfl : w = wr := hww
    have HS := hidd hsame
    clear hsame
    by_cases hlt : i < xs.length
    · have hlt2 : i < ys.length := by have := HL.out; omega
      rcases HX.out with hz | ⟨xb, xo, rfl, hxc⟩
      · subst hz; simp at hlt
      · rcases HY.out with hz | ⟨yb, yo, rfl, hyc⟩
        · subst hz; simp at hlt2
        · have cx := hxc i hlt
          have cy := hyc i hlt2
          have hI1 : (i : Int) < (xs.length : Int) := by omega
          have hI2 : (i : Int) < (ys.length : Int) := by omega
          have hI3 : decide ((i : Int) ≥ (ys.length : Int)) = false := by simp; omega
          have hI4 : ¬ (ys.length : Int) ≤ (i : Int) := by omega
          have HE := hidd (HNE.out i hlt HS.out)
          obtain ⟨x, hxx⟩ : ∃ x, x = xs.getD i 0 := ⟨_, rfl⟩
          obtain ⟨y, hyy⟩ : ∃ y, y = ys.getD i 0 := ⟨_, rfl⟩
          rw [← hxx] at cx HE
          rw [← hyy] at cy HE
          have HXY := hidd (And.intro hxx hyy)
          have HSG := hidd (show (x = y → sgnI x y = 0) ∧ (x ≠ y → sgnI x y ≠ 0 ∧ decide (sgnI x y < 0) = decide (x < y)) from by
            unfold sgnI
            refine ⟨fun h => by rw [if_neg (by omega), if_neg (by omega)], fun h => ?_⟩
            by_cases h1 : x < y
            · rw [if_pos h1]; exact ⟨by decide, by simp [h1]⟩
            · rw [if_neg h1, if_pos (by omega)]; exact ⟨by decide, by simp [h1]⟩)
          obtain ⟨s, hs⟩ : ∃ s, s = sgnI x y := ⟨_, rfl⟩
          have HCM := hidd (fun W => cmp43 x y W)
          rw [← hs] at HSG HCM
          clear hxc hyc hxx hyy hs
          by_cases he : x = y
          · have hs0 := HSG.out.1 he
            subst hs0
            have K := hidd (show ∀ j, j < i + 1 → xs.getD j 0 = ys.getD j 0 from fun j hj => by
              by_cases hji : j = i
              · rw [hji, ← HXY.out.1, ← HXY.out.2, he]
              · exact HS.out j (by omega))
            clear he
            go_wp2_with fail
            refine (HCM.out _).mono ?_
            rintro e w' ⟨rfl, rfl⟩
            go_wp2_with fail
            go_roundw
            case rel => exact ⟨i + 1, by omega, by go_num, K.out, trivial⟩
            case measure => simp [intOf]; omega
          · have hs0 := (HSG.out.2 he)
            have hne : (s != 0) = true := by rw [bne_iff_ne]; exact hs0.1
            have HQ := hidd (show decide (s < 0) = q from by rw [hs0.2, HE.out he])
            clear he hs0
            go_wp2_with fail
            refine (HCM.out _).mono ?_
            rintro e w' ⟨rfl, rfl⟩
            go_wp2_with fail
            go_ret
            exact ⟨⟨_, rfl, HQ.out⟩, rfl⟩
    · have hie : i = xs.length := by omega
      have HQ := hidd (HSM.out (fun j hj => HS.out j (by omega)))
      have hlI : ¬ (i : Int) < (xs.length : Int) := by omega
      have hll : ((xs.length : Int) < (ys.length : Int)) = False := by have := HL.out; simp; omega
      have hl3 : decide ((xs.length : Int) < (ys.length : Int)) = false := by have := HL.out; simp; omega
      clear hie
      go_wp2_with fail
      go_ret
      exact ⟨⟨_, rfl, by rw [HQ.out]; rfl⟩, rfl⟩
end Go.Proofs.Ytidengcihakijaa
