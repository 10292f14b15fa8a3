/- l03Clique: is there a clique of m points in a set? -/
import Derived.Test.YtckffliiidgilaaDoorCcl
import Derived.Test.YtckffliiidgilaaDoorBac
import Derived.Test.YtckffliiidgilaaDoorBab
import Derived.Deep.Cut
namespace Go.Proofs.YtckffliiidgilaaDoor
set_option linter.unusedVariables false
set_option linter.unusedSimpArgs false
open Go Go.RowKit Go.Shelf
theorem hiB_sub {F j : Nat} (h : F.testBit j = true) : hiB F j = hiB F (j + 1) + 2 ^ j := by
  unfold hiB
  rw [Nat.shiftLeft_eq, Nat.shiftLeft_eq, Nat.shiftRight_succ, Nat.pow_succ]
  have h2 : F >>> j % 2 = 1 := by
    rw [Nat.testBit_eq_decide_div_mod_eq] at h
    have := of_decide_eq_true h
    rw [Nat.shiftRight_eq_div_pow]; exact this
  have h3 : F >>> j = 2 * (F >>> j / 2) + 1 := by omega
  have h4 : F >>> j * 2 ^ j = (2 * (F >>> j / 2) + 1) * 2 ^ j := congrArg (· * 2 ^ j) h3
  rw [h4, Nat.add_mul, Nat.one_mul, Nat.mul_comm 2 (F >>> j / 2), Nat.mul_assoc, Nat.mul_comm 2]
theorem bit_zero (S j : Nat) (hS : S < 4611686018427387904) : (bits .and .i64 ((S : Int) / 2 ^ j) 1 == 0) = !S.testBit j := by
  have h := bit_test S j hS
  have e : ((S : Int) / 2 ^ j) = ((S / 2 ^ j : Nat) : Int) := by simp
  have hlt : S / 2 ^ j < 4611686018427387904 := Nat.lt_of_le_of_lt (Nat.div_le_self _ _) hS
  rw [e] at h ⊢
  have h2 := i64_and_nat (S / 2 ^ j) 1 hlt (by omega)
  rw [show ((1 : Nat) : Int) = 1 from rfl] at h2
  rw [h2] at h ⊢
  rw [← h, Nat.and_one_is_mod]
  have hm : S / 2 ^ j % 2 = 0 ∨ S / 2 ^ j % 2 = 1 := by omega
  rcases hm with hm | hm <;> rw [hm] <;> rfl
/-- The rows of neighbours. -/
abbrev cpG (bs : List Nat) (c : Int) (N : Nat) : Nat → Nat := rwN bs c N
theorem sub_bit {X Y j : Nat} (hX : X < 2 ^ 17) (hj : j < 17) (h : X = Y + 2 ^ j) : wrap64 ((X : Int) - wrap64 (2 ^ j)) = (Y : Int) := by
  have h2 : 2 ^ j < 2 ^ 17 := Nat.pow_lt_pow_right (by omega) hj
  have e : (2 : Int) ^ j = ((2 ^ j : Nat) : Int) := by simp
  rw [e]
  generalize 2 ^ j = y at *
  rw [IntWalk.wrap64_in (y : Int) ⟨by omega, by omega⟩, IntWalk.wrap64_in _ ⟨by omega, by omega⟩]; omega
set_option maxRecDepth 100000 in
set_option maxHeartbeats 4000000 in
theorem clq69 (N : Nat) (k c : Int) (bs : List Nat) (hb : Bys bs) (n1 : 1 ≤ N) (hN : N ≤ 17) : ∀ (m : Nat), m ≤ 17 → ∀ (F : Nat), F < 2 ^ 17 → ∀ (w : World),
    Calls Tryd.prog 69 #[.agg (ccells (N : Int) k bs).toArray, .int .i64 c, .int .i64 (F : Int), .int .i64 (m : Int)] w fun e w' => e = .returned (.bool (hasK (rwN bs c N) N m F)) ∧ Below w.heap.size w w'
  | 0, _, F, hF, w => by
    go_enter Tryd.func69, Tryd.ntmps69
    go_wp2_with fail
    go_ret
    exact ⟨rfl, (Below.refl _ _).alloc (Nat.le_refl _) _⟩
  | m + 1, hm, F, hF, w => by
    have HR := hidd (fun F hF W => clq69 N k c bs hb n1 hN m (by omega) F hF W)
    obtain ⟨M, hM⟩ : ∃ M : Nat, M = m + 1 := ⟨_, rfl⟩
    rw [← hM]
    have hm0 : ((M : Int) == 0) = false := by rw [beq_eq_false_iff_ne]; omega
    have hM1 : (M : Int) - 1 = (m : Int) := by omega
    have HM := hidd hM
    have HS := hidd (size_c26 (N : Int) k hb)
    have HC0 := hidd (show (ccells (N : Int) k bs).toArray[0]? = some (.int .i64 (N : Int)) from rfl)
    have HG := hidd (And.intro (Blk.new w (ccells (N : Int) k bs).toArray 28 _ rfl) ((Below.refl w.heap.size w).alloc (Nat.le_refl _) (.cells (ccells (N : Int) k bs).toArray 28)))
    have HO := hidd (fun W => ones65 F W (by omega))
    obtain ⟨o, ho⟩ : ∃ o, o = ones F := ⟨_, rfl⟩
    rw [← ho] at HO
    clear hM
    by_cases hge : o < M
    · have hfew := hasK_few (R := rwN bs c N) (m := M) hN hF (by rw [← ho]; exact hge)
      have hgI : decide ((o : Int) < (M : Int)) = true := by simp; omega
      rw [hfew]
      clear hfew ho
      go_enter Tryd.func69, Tryd.ntmps69
      go_wp2_with (go_at_call 94; refine (HO.out _).mono ?_; rintro e w' ⟨rfl, rfl⟩)
      go_ret
      exact ⟨rfl, HG.out.2⟩
    · have hgI : decide ((o : Int) < (M : Int)) = false := by simp; omega
      clear ho
      go_enter Tryd.func69, Tryd.ntmps69
      obtain ⟨W0, hW0⟩ : ∃ W0, W0 = w.alloc (.cells (ccells (N : Int) k bs).toArray 28) := ⟨_, rfl⟩
      rw [← hW0] at HG
      go_upto_region 1 with fail
      rw [← hW0]
      clear hW0
      go_wp2_with (go_at_call 94; refine (HO.out _).mono ?_; rintro e w' ⟨rfl, rfl⟩)
      go_loopw [2, 9] (fun f e wr => ∃ j : Nat, j ≤ N ∧ f = .int .i64 (hiB F j : Nat) ∧ e = .int .i64 (j : Int) ∧ Hid (hasT (rwN bs c N) N m F j = false ∧ Blk wr w.heap.size (ccells (N : Int) k bs).toArray 28 ∧ Below w.heap.size w wr)) (fun _ e _ => N - (intOf e).toNat)
      case atStart => exact ⟨0, by omega, by rw [hiB_zero], rfl, rfl, HG.out⟩
      case round =>
        obtain ⟨j, hj, rfl, rfl, HK⟩ := hrel
        have c0 := HK.out.2.1.cell HC0.out
        obtain ⟨X, hX⟩ : ∃ X, X = hiB F j := ⟨_, rfl⟩
        have hX17 : X < 2 ^ 17 := by rw [hX]; exact hiB_lt hF
        rw [← hX]
        by_cases hlt : j < N
        · cases hbit : X.testBit j with
          | true =>
            have hFb : F.testBit j = true := by rw [← hbit, hX, hiB_bitj]
            have hbt := (bit_zero X j (by omega)).trans (congrArg (!·) hbit)
            have hsub := sub_bit (j := j) (Y := hiB F (j + 1)) hX17 (by omega) (by rw [hX]; exact hiB_sub hFb)
            obtain ⟨Y, hY⟩ : ∃ Y, Y = hiB F (j + 1) := ⟨_, rfl⟩
            have hY17 : Y < 2 ^ 17 := by rw [hY]; exact hiB_lt hF
            have hst := hasT_step (R := rwN bs c N) (N := N) (m := m) hFb HK.out.1
            obtain ⟨r, hr⟩ : ∃ r, r = rwN bs c N j := ⟨_, rfl⟩
            have hr17 : r < 2 ^ 17 := by rw [hr]; unfold rwN; exact Nat.lt_of_lt_of_le (arK_lt _ _) (Nat.pow_le_pow_right (by omega) hN)
            have HAR := hidd (fun W => around63 (N : Int) k bs hb (j : Int) c W (by omega) (by omega) (by omega) (by omega))
            rw [Int.toNat_natCast, show arK (nbB bs (j : Int) c) N = rwN bs c N j from rfl, ← hr] at HAR
            have hand := i64_and_nat Y r (by omega) (by omega)
            have hA17 : Y &&& r < 2 ^ 17 := Nat.lt_of_le_of_lt Nat.and_le_left hY17
            rw [← hY] at hsub
            rw [← hY, ← hr] at hst
            obtain ⟨Z, hZ⟩ : ∃ Z, Z = Y &&& r := ⟨_, rfl⟩
            rw [← hZ] at hand hA17 hst
            have HCR := hidd (fun W => HR.out Z hA17 W)
            obtain ⟨v, hv⟩ : ∃ v, v = hasK (rwN bs c N) N m Z := ⟨_, rfl⟩
            rw [← hv] at HCR hst
            have hwm : IntKind.i64.wrap (m : Int) = m := IntWalk.i64_in _ (by omega)
            have HY := hidd hY
            have HST := hidd hst
            have HV := hidd hv
            clear hst hr hZ hv hY hX hbit hFb
            go_wp2_with fail
            refine wp_region_quiet_at (fun w' => Blk w' w.heap.size (ccells (N : Int) k bs).toArray 28 ∧ Below w.heap.size w w') rfl (by kernel_rfl) (show Blk wr.drew w.heap.size (ccells (N : Int) k bs).toArray 28 ∧ Below w.heap.size w wr.drew from ⟨HK.out.2.1.drew, below_drewN HK.out.2.2 1⟩) ?_
            refine qs rfl (fun KQ hKQ => ?_)
            apply Exists.intro
            refine ⟨fun w' hw' => ?_, ?_⟩
            · exact quietRow 28 (.tmp 4) rfl w.heap.size rfl 28 _ _ hw'.1 Tryd.underlying28 rfl HS.out
            go_simp
            refine hKQ _ ?_
            clear hKQ KQ
            refine qs rfl (fun KQ hKQ => ?_)
            apply Exists.intro
            refine ⟨fun w' hw' => ?_, ?_⟩
            · go_simp; exact rfl
            go_simp
            refine hKQ _ ?_
            clear hKQ KQ
            refine qs rfl (fun KQ hKQ => ?_)
            apply Exists.intro
            refine ⟨fun w' hw' => ?_, ?_⟩
            · go_simp; exact rfl
            go_simp
            refine hKQ _ ?_
            clear hKQ KQ
            refine qs rfl (fun KQ hKQ => ?_)
            apply Exists.intro
            refine ⟨fun w' hw' => ?_, ?_⟩
            · exact quietRow 28 (.tmp 4) rfl w.heap.size rfl 28 _ _ hw'.1 Tryd.underlying28 rfl HS.out
            go_simp
            refine hKQ _ ?_
            clear hKQ KQ
            refine qs rfl (fun KQ hKQ => ?_)
            apply Exists.intro
            refine ⟨fun w' hw' => ?_, ?_⟩
            · go_simp; exact rfl
            go_simp
            refine hKQ _ ?_
            clear hKQ KQ
            refine qs rfl (fun KQ hKQ => ?_)
            apply Exists.intro
            refine ⟨fun w' hw' => ?_, ?_⟩
            · go_simp; exact rfl
            go_simp
            refine hKQ _ ?_
            clear hKQ KQ
            refine qs rfl (fun KQ hKQ => ?_)
            apply Exists.intro
            refine ⟨fun w' hw' => ?_, ?_⟩
            · go_simp; exact (HAR.out _).mono fun _ _ h => ⟨h.1, hw'.1.below h.2 hw'.1.lt, hw'.2.trans (h.2.mono hw'.2.size)⟩
            go_simp
            refine hKQ _ ?_
            clear hKQ KQ
            refine qs rfl (fun KQ hKQ => ?_)
            apply Exists.intro
            refine ⟨fun w' hw' => ?_, ?_⟩
            · go_simp; exact rfl
            go_simp
            refine hKQ _ ?_
            clear hKQ KQ
            refine qs rfl (fun KQ hKQ => ?_)
            apply Exists.intro
            refine ⟨fun w' hw' => ?_, ?_⟩
            · go_simp; exact rfl
            go_simp
            refine hKQ _ ?_
            clear hKQ KQ
            refine qs rfl (fun KQ hKQ => ?_)
            apply Exists.intro
            refine ⟨fun w' hw' => ?_, ?_⟩
            · go_simp; exact rfl
            go_simp
            refine hKQ _ ?_
            clear hKQ KQ
            refine qs rfl (fun KQ hKQ => ?_)
            apply Exists.intro
            refine ⟨fun w' hw' => ?_, ?_⟩
            · go_simp; exact (HCR.out _).mono fun _ _ h => ⟨h.1, hw'.1.below h.2 hw'.1.lt, hw'.2.trans (h.2.mono hw'.2.size)⟩
            go_simp
            refine hKQ _ ?_
            clear hKQ KQ
            refine wpQuiet_nil ?_
            intro w' hw'
            have HW := hidd hw'
            clear hw'
            cases v with
            | true =>
              have HE := hidd (hasT_yes (show j + 1 ≤ N by omega) HST.out)
              go_wp2_with fail
              go_ret
              exact ⟨by rw [HM.out, HE.out]; rfl, HW.out.2⟩
            | false =>
              go_wp2_with fail
              go_roundw
              case rel => exact ⟨j + 1, by omega, by rw [HY.out], by go_num, HST.out, HW.out⟩
              case measure => simp [intOf]; omega
          | false =>
            have hFb : F.testBit j = false := by rw [← hbit, hX, hiB_bitj]
            have hbt := (bit_zero X j (by omega)).trans (congrArg (!·) hbit)
            have HST := hidd (hasT_skip hFb HK.out.1)
            have HX := hidd (hiB_skip hFb)
            have HE := hidd hX
            clear hX hbit hFb
            go_wp2_with fail
            go_roundw
            case rel => exact ⟨j + 1, by omega, by rw [HX.out, HE.out], by go_num, HST.out, HK.out.2⟩
            case measure => simp [intOf]; omega
        · have hje : j = N := by omega
          subst hje
          have HE := hidd HK.out.1
          clear hX
          go_wp2_with fail
          go_ret
          exact ⟨by rw [HM.out, ← hasT_N, HE.out]; rfl, HK.out.2.2⟩
end Go.Proofs.YtckffliiidgilaaDoor
