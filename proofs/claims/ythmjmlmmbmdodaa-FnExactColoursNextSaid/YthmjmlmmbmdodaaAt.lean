/- The model's test of one fault: l07At. -/
import Derived.Test.YthmjmlmmbmdodaaFlm
import Derived.Deep.QuietTactic
import Derived.BigQuiet
namespace Go.Proofs.Ythmjmlmmbmdodaa
set_option linter.unusedVariables false
set_option linter.unusedSimpArgs false
open Go Go.RowKit Go.Shelf
set_option maxRecDepth 100000 in
set_option maxHeartbeats 2000000 in
theorem at38 (zs : List Int) (a : Option Addr) (cap : Nat) (kind y z : Int) (w : World) (hs : SlI w a zs) (y1 : 1 ≤ y) (yz : y < z) (zl : z ≤ (zs.length : Int)) (hl : (zs.length : Int) ≤ 41) (k0 : 0 ≤ kind) (k2 : kind ≤ 2) :
    Calls Try.prog 38 #[.slice a zs.length cap, .int .i64 kind, .int .i64 y, .int .i64 z] w fun e w' => e = .returned (.int .i64 (ftAt zs kind y z)) ∧ Below w.heap.size w w' := by
  rcases hs with hs | ⟨b, off, rfl, hc⟩
  · subst hs; simp at zl; omega
  · obtain ⟨x, hx⟩ : ∃ x, x = ftX kind y z := ⟨_, rfl⟩
    have hxx : (kind = 2 ∧ 2 * y - z = x) ∨ (kind ≠ 2 ∧ z - y = x) := by
      unfold ftX at hx
      by_cases h2 : kind = 2
      · rw [if_pos h2] at hx; exact .inl ⟨h2, hx.symm⟩
      · rw [if_neg h2] at hx; exact .inr ⟨h2, hx.symm⟩
    obtain ⟨Y, hY⟩ : ∃ Y : Nat, y = (Y : Int) + 1 := ⟨(y - 1).toNat, by omega⟩
    obtain ⟨Z, hZ⟩ : ∃ Z : Nat, z = (Z : Int) + 1 := ⟨(z - 1).toNat, by omega⟩
    have cy := gI_cell hc hY (by omega)
    have cz := gI_cell hc hZ (by omega)
    obtain ⟨gy, hgy⟩ : ∃ v, v = gI zs y := ⟨_, rfl⟩
    obtain ⟨gz, hgz⟩ : ∃ v, v = gI zs z := ⟨_, rfl⟩
    have x1 : -41 ≤ x := by omega
    have x2 : x ≤ 41 := by omega
    rw [← hgy] at cy
    rw [← hgz] at cz
    have HC := hidd hc
    have HX := hidd hx
    have HGY := hidd hgy
    have HGZ := hidd hgz
    have HXX := hidd hxx
    have wy : IntKind.i64.wrap (y - 1) = (Y : Int) := by rw [show y - 1 = (Y : Int) by omega]; exact IntWalk.i64_in _ (by omega)
    have wz : IntKind.i64.wrap (z - 1) = (Z : Int) := by rw [show z - 1 = (Z : Int) by omega]; exact IntWalk.i64_in _ (by omega)
    have yl : (Y : Int) < (zs.length : Int) := by omega
    have zl2 : (Z : Int) < (zs.length : Int) := by omega
    have HYZ := hidd (And.intro hY hZ)
    clear hc hx hgy hgz hxx hY hZ
    by_cases hA : x < 1
    · have H := hidd (ftAt_no (zs := zs) (kind := kind) (y := y) (z := z) (by unfold ftB; rw [← HX.out]; rw [decide_eq_false (by omega : ¬ 1 ≤ x)]; rfl))
      have hd : decide (x < 1) = true := by simpa using hA
      rcases HXX.out with ⟨q1, q2⟩ | ⟨q1, q2⟩
      · have e1 : (kind == 2) = true := by simpa using q1
        clear q1
        go_enter Try.func38, Try.ntmps38
        go_wp2_with fail
        go_quiet (fail)
        go_wp2
        go_ret
        exact ⟨by rw [H.out]; rfl, below_drewN (Below.refl _ _) _⟩
      · have e1 : (kind == 2) = false := by rw [beq_eq_false_iff_ne]; exact q1
        clear q1
        go_enter Try.func38, Try.ntmps38
        go_wp2_with fail
        go_quiet (fail)
        go_wp2
        go_ret
        exact ⟨by rw [H.out]; rfl, below_drewN (Below.refl _ _) _⟩
    · have hd : decide (x < 1) = false := by simpa using hA
      by_cases hB : y < x
      · have H := hidd (ftAt_no (zs := zs) (kind := kind) (y := y) (z := z) (by unfold ftB; rw [← HX.out]; rw [decide_eq_false (by omega : ¬ x ≤ y)]; simp))
        have hd2 : decide (y < x) = true := by simpa using hB
        rcases HXX.out with ⟨q1, q2⟩ | ⟨q1, q2⟩
        · have e1 : (kind == 2) = true := by simpa using q1
          clear q1
          go_enter Try.func38, Try.ntmps38
          go_wp2_with fail
          go_quiet (fail)
          go_wp2
          go_ret
          exact ⟨by rw [H.out]; rfl, below_drewN (Below.refl _ _) _⟩
        · have e1 : (kind == 2) = false := by rw [beq_eq_false_iff_ne]; exact q1
          clear q1
          go_enter Try.func38, Try.ntmps38
          go_wp2_with fail
          go_quiet (fail)
          go_wp2
          go_ret
          exact ⟨by rw [H.out]; rfl, below_drewN (Below.refl _ _) _⟩
      · have hd2 : decide (y < x) = false := by simpa using hB
        by_cases hC : 0 < kind
        · have hd3 : decide (0 < kind) = true := by simpa using hC
          cases hD : (x == y) with
          | true =>
            have H := hidd (ftAt_no (zs := zs) (kind := kind) (y := y) (z := z) (by unfold ftB; rw [← HX.out]; rw [hD, hd3]; simp))
            rcases HXX.out with ⟨q1, q2⟩ | ⟨q1, q2⟩
            · have e1 : (kind == 2) = true := by simpa using q1
              clear q1
              go_enter Try.func38, Try.ntmps38
              go_wp2_with fail
              go_quiet (fail)
              go_wp2
              go_ret
              exact ⟨by rw [H.out]; rfl, below_drewN (Below.refl _ _) _⟩
            · have e1 : (kind == 2) = false := by rw [beq_eq_false_iff_ne]; exact q1
              clear q1
              go_enter Try.func38, Try.ntmps38
              go_wp2_with fail
              go_quiet (fail)
              go_wp2
              go_ret
              exact ⟨by rw [H.out]; rfl, below_drewN (Below.refl _ _) _⟩
          | false =>
            have hCC : (!(decide (0 < kind) && (x == y))) = true := by rw [hD]; simp
            obtain ⟨X, hX⟩ : ∃ X : Nat, x = (X : Int) + 1 := ⟨(x - 1).toNat, by omega⟩
            have cx := gI_cell HC.out hX (by omega)
            obtain ⟨gx, hgx⟩ : ∃ v, v = gI zs x := ⟨_, rfl⟩
            rw [← hgx] at cx
            have wx : IntKind.i64.wrap (x - 1) = (X : Int) := by rw [show x - 1 = (X : Int) by omega]; exact IntWalk.i64_in _ (by omega)
            have xl : (X : Int) < (zs.length : Int) := by omega
            have HGX := hidd hgx
            clear hgx hX
            cases h1 : (gx == gy) with
            | false =>
              have H := hidd (ftAt_no (zs := zs) (kind := kind) (y := y) (z := z) (by unfold ftB; rw [← HX.out]; rw [← HGX.out, ← HGY.out, h1]; simp))
              have h1' : (gx != gy) = true := by rw [bne, h1]; rfl
              clear h1
              rcases HXX.out with ⟨q1, q2⟩ | ⟨q1, q2⟩
              · have e1 : (kind == 2) = true := by simpa using q1
                clear q1
                go_enter Try.func38, Try.ntmps38
                go_wp2_with fail
                go_quiet (fail)
                go_wp2
                go_ret
                exact ⟨by rw [H.out]; rfl, below_drewN (Below.refl _ _) _⟩
              · have e1 : (kind == 2) = false := by rw [beq_eq_false_iff_ne]; exact q1
                clear q1
                go_enter Try.func38, Try.ntmps38
                go_wp2_with fail
                go_quiet (fail)
                go_wp2
                go_ret
                exact ⟨by rw [H.out]; rfl, below_drewN (Below.refl _ _) _⟩
            | true =>
              have h1' : (gx != gy) = false := by rw [bne, h1]; rfl
              cases h2 : (gy == gz) with
              | false =>
                have H := hidd (ftAt_no (zs := zs) (kind := kind) (y := y) (z := z) (by unfold ftB; rw [← HX.out]; rw [← HGY.out, ← HGZ.out, h2]; simp))
                have h2' : (gy != gz) = true := by rw [bne, h2]; rfl
                clear h1 h2
                rcases HXX.out with ⟨q1, q2⟩ | ⟨q1, q2⟩
                · have e1 : (kind == 2) = true := by simpa using q1
                  clear q1
                  go_enter Try.func38, Try.ntmps38
                  go_wp2_with fail
                  go_quiet (fail)
                  go_wp2
                  go_ret
                  exact ⟨by rw [H.out]; rfl, below_drewN (Below.refl _ _) _⟩
                · have e1 : (kind == 2) = false := by rw [beq_eq_false_iff_ne]; exact q1
                  clear q1
                  go_enter Try.func38, Try.ntmps38
                  go_wp2_with fail
                  go_quiet (fail)
                  go_wp2
                  go_ret
                  exact ⟨by rw [H.out]; rfl, below_drewN (Below.refl _ _) _⟩
              | true =>
                have H := hidd (ftAt_yes (zs := zs) (kind := kind) (y := y) (z := z) (by unfold ftB; rw [← HX.out, ← HGX.out, ← HGY.out, ← HGZ.out, decide_eq_true (by omega : 1 ≤ x), decide_eq_true (by omega : x ≤ y), h1, h2, hCC]; rfl))
                rw [← HX.out] at H
                have h2' : (gy != gz) = false := by rw [bne, h2]; rfl
                clear h1 h2 hCC
                rcases HXX.out with ⟨q1, q2⟩ | ⟨q1, q2⟩
                · have e1 : (kind == 2) = true := by simpa using q1
                  clear q1
                  go_enter Try.func38, Try.ntmps38
                  go_wp2_with fail
                  go_quiet (fail)
                  go_wp2
                  go_ret
                  exact ⟨by rw [H.out]; rfl, below_drewN (Below.refl _ _) _⟩
                · have e1 : (kind == 2) = false := by rw [beq_eq_false_iff_ne]; exact q1
                  clear q1
                  go_enter Try.func38, Try.ntmps38
                  go_wp2_with fail
                  go_quiet (fail)
                  go_wp2
                  go_ret
                  exact ⟨by rw [H.out]; rfl, below_drewN (Below.refl _ _) _⟩
        · have hd3 : decide (0 < kind) = false := by simpa using hC
          have hCC : (!(decide (0 < kind) && (x == y))) = true := by rw [hd3]; rfl
          obtain ⟨X, hX⟩ : ∃ X : Nat, x = (X : Int) + 1 := ⟨(x - 1).toNat, by omega⟩
          have cx := gI_cell HC.out hX (by omega)
          obtain ⟨gx, hgx⟩ : ∃ v, v = gI zs x := ⟨_, rfl⟩
          rw [← hgx] at cx
          have wx : IntKind.i64.wrap (x - 1) = (X : Int) := by rw [show x - 1 = (X : Int) by omega]; exact IntWalk.i64_in _ (by omega)
          have xl : (X : Int) < (zs.length : Int) := by omega
          have HGX := hidd hgx
          clear hgx hX
          cases h1 : (gx == gy) with
          | false =>
            have H := hidd (ftAt_no (zs := zs) (kind := kind) (y := y) (z := z) (by unfold ftB; rw [← HX.out]; rw [← HGX.out, ← HGY.out, h1]; simp))
            have h1' : (gx != gy) = true := by rw [bne, h1]; rfl
            clear h1
            rcases HXX.out with ⟨q1, q2⟩ | ⟨q1, q2⟩
            · have e1 : (kind == 2) = true := by simpa using q1
              clear q1
              go_enter Try.func38, Try.ntmps38
              go_wp2_with fail
              go_quiet (fail)
              go_wp2
              go_ret
              exact ⟨by rw [H.out]; rfl, below_drewN (Below.refl _ _) _⟩
            · have e1 : (kind == 2) = false := by rw [beq_eq_false_iff_ne]; exact q1
              clear q1
              go_enter Try.func38, Try.ntmps38
              go_wp2_with fail
              go_quiet (fail)
              go_wp2
              go_ret
              exact ⟨by rw [H.out]; rfl, below_drewN (Below.refl _ _) _⟩
          | true =>
            have h1' : (gx != gy) = false := by rw [bne, h1]; rfl
            cases h2 : (gy == gz) with
            | false =>
              have H := hidd (ftAt_no (zs := zs) (kind := kind) (y := y) (z := z) (by unfold ftB; rw [← HX.out]; rw [← HGY.out, ← HGZ.out, h2]; simp))
              have h2' : (gy != gz) = true := by rw [bne, h2]; rfl
              clear h1 h2
              rcases HXX.out with ⟨q1, q2⟩ | ⟨q1, q2⟩
              · have e1 : (kind == 2) = true := by simpa using q1
                clear q1
                go_enter Try.func38, Try.ntmps38
                go_wp2_with fail
                go_quiet (fail)
                go_wp2
                go_ret
                exact ⟨by rw [H.out]; rfl, below_drewN (Below.refl _ _) _⟩
              · have e1 : (kind == 2) = false := by rw [beq_eq_false_iff_ne]; exact q1
                clear q1
                go_enter Try.func38, Try.ntmps38
                go_wp2_with fail
                go_quiet (fail)
                go_wp2
                go_ret
                exact ⟨by rw [H.out]; rfl, below_drewN (Below.refl _ _) _⟩
            | true =>
              have H := hidd (ftAt_yes (zs := zs) (kind := kind) (y := y) (z := z) (by unfold ftB; rw [← HX.out, ← HGX.out, ← HGY.out, ← HGZ.out, decide_eq_true (by omega : 1 ≤ x), decide_eq_true (by omega : x ≤ y), h1, h2, hCC]; rfl))
              rw [← HX.out] at H
              have h2' : (gy != gz) = false := by rw [bne, h2]; rfl
              clear h1 h2 hCC
              rcases HXX.out with ⟨q1, q2⟩ | ⟨q1, q2⟩
              · have e1 : (kind == 2) = true := by simpa using q1
                clear q1
                go_enter Try.func38, Try.ntmps38
                go_wp2_with fail
                go_quiet (fail)
                go_wp2
                go_ret
                exact ⟨by rw [H.out]; rfl, below_drewN (Below.refl _ _) _⟩
              · have e1 : (kind == 2) = false := by rw [beq_eq_false_iff_ne]; exact q1
                clear q1
                go_enter Try.func38, Try.ntmps38
                go_wp2_with fail
                go_quiet (fail)
                go_wp2
                go_ret
                exact ⟨by rw [H.out]; rfl, below_drewN (Below.refl _ _) _⟩
end Go.Proofs.Ythmjmlmmbmdodaa
