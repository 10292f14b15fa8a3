/- l05Sizes, l05Code, l05Avoids: the model's codes, and whether a colouring avoids sizes. -/
import Derived.Test.YtckffliiidgilaaDoorClq
import Derived.Test.YtckffliiidgilaaDoorBad
namespace Go.Proofs.YtckffliiidgilaaDoor
set_option linter.unusedVariables false
set_option linter.unusedSimpArgs false
open Go Go.RowKit Go.Shelf
theorem full_facts {N : Nat} (n1 : 1 ≤ N) (hN17 : N ≤ 17) : ∃ FU Y : Nat, FU = 2 ^ N - 1 ∧ FU < 2 ^ 17 ∧ Y = FU + 1 ∧ min N 64 = N ∧ IntKind.u64.wrap (N : Int) = (N : Int) ∧ IntKind.i64.wrap (2 ^ N) = (Y : Int) ∧ wrap64 (2 ^ N) = (Y : Int) ∧ IntKind.i64.wrap ((Y : Int) - 1) = (FU : Int) ∧ wrap64 ((Y : Int) - 1) = (FU : Int) := by
  have h2 : 2 ^ N ≤ 2 ^ 17 := Nat.pow_le_pow_right (by omega) hN17
  have h1 : 1 ≤ 2 ^ N := Nat.one_le_two_pow
  have e : (2 : Int) ^ N = ((2 ^ N : Nat) : Int) := by simp
  rw [e]
  generalize 2 ^ N = z at *
  have e2 : ((z - 1 + 1 : Nat) : Int) = (z : Int) := by omega
  have e3 : ((z : Nat) : Int) - 1 = ((z - 1 : Nat) : Int) := by omega
  refine ⟨z - 1, z - 1 + 1, rfl, by omega, rfl, by omega, ?_, ?_, ?_, ?_, ?_⟩
  · unfold IntKind.wrap; simp [IntKind.signed, IntKind.bits]; omega
  · rw [e2]; exact IntWalk.i64_in _ (by omega)
  · rw [e2]; exact IntWalk.wrap64_in _ ⟨by omega, by omega⟩
  · rw [e2, e3]; exact IntWalk.i64_in _ (by omega)
  · rw [e2, e3]; exact IntWalk.wrap64_in _ ⟨by omega, by omega⟩
set_option maxRecDepth 100000 in
set_option maxHeartbeats 2000000 in
theorem sizes60 (k : Int) (zs : List Int) (a : Option Addr) (cap : Nat) (w : World) (hs : SlI w a zs) (hl : zs.length ≤ 1048576) :
    Calls Tryd.prog 60 #[.slice a zs.length cap, .int .i64 k] w fun e w' => e = .returned (.int .i64 (if szOk k zs then 0 else 2)) ∧ w = w' := by
  have HSL := hidd hs
  have hwl : IntKind.i64.wrap (zs.length : Int) = zs.length := IntWalk.i64_in _ (by omega)
  cases hlk : decide ((zs.length : Int) = k) with
  | false =>
    have hne : ((zs.length : Int) != k) = true := by rw [bne_iff_ne]; exact of_decide_eq_false hlk
    rw [show szOk k zs = false by unfold szOk; rw [hlk]; rfl]
    clear hlk hs
    go_enter Tryd.func60, Tryd.ntmps60
    go_wp2_with fail
    go_ret
    exact ⟨rfl, rfl⟩
  | true =>
    have hne : ((zs.length : Int) != k) = false := by rw [bne_eq_false_iff_eq]; exact of_decide_eq_true hlk
    have hsz : szOk k zs = szP zs zs.length := by unfold szOk; rw [hlk, Bool.true_and]
    rw [hsz]
    obtain ⟨cd, hcd⟩ : ∃ cd : Int, cd = if szP zs zs.length then 0 else 2 := ⟨_, rfl⟩
    rw [← hcd]
    have HCD := hidd hcd
    clear hlk hs hsz hcd
    go_enter Tryd.func60, Tryd.ntmps60
    go_wp2_with fail
    go_loopw [5] (fun e wr => ∃ j : Nat, j ≤ zs.length ∧ e = .int .i64 (j : Int) ∧ Hid (szP zs j = true ∧ w = wr)) (fun e _ => zs.length - (intOf e).toNat)
    case atStart => exact ⟨0, Nat.zero_le _, rfl, rfl, rfl⟩
    case round =>
      obtain ⟨j, hj, rfl, hpj, hww⟩ := hrel
      obtain rfl : w = wr := hww
      have HP := hidd hpj
      clear hpj
      by_cases hlt : j < zs.length
      · have hltI : decide ((j : Int) < (zs.length : Int)) = true := by simp; omega
        rcases HSL.out with hz | ⟨bl, off, ha, hc⟩
        · rw [hz] at hlt; simp at hlt
        · subst ha
          have cj := hc j hlt
          obtain ⟨z, hzz⟩ : ∃ z, z = zs.getD j 0 := ⟨_, rfl⟩
          rw [← hzz] at cj
          have hst := szP_step zs j
          rw [HP.out, Bool.true_and, ← hzz] at hst
          cases hin : inB z 1 17 with
          | true =>
            have HST := hidd (hst.trans hin)
            have HIN := hidd hin
            clear hc hst hin hzz
            go_wp2_with (go_at_call 59; refine (in49 _ _ _ _).mono ?_; rintro e w' ⟨rfl, rfl⟩; rw [HIN.out])
            go_roundw
            case rel => exact ⟨j + 1, by omega, by go_num, HST.out, trivial⟩
            case measure => simp [intOf]; omega
          | false =>
            have HST := hidd (szP_fall (zs := zs) (d := j) (by rw [← hzz]; exact hin) hlt)
            have HIN := hidd hin
            clear hc hst hin hzz
            go_wp2_with (go_at_call 59; refine (in49 _ _ _ _).mono ?_; rintro e w' ⟨rfl, rfl⟩; rw [HIN.out])
            go_ret
            exact ⟨by rw [HCD.out, HST.out]; rfl, rfl⟩
      · have hltI : decide ((j : Int) < (zs.length : Int)) = false := by simp; omega
        have hje : j = zs.length := by omega
        have HP2 := hidd (show szP zs zs.length = true by rw [← hje]; exact HP.out)
        clear hje
        go_wp2_with fail
        go_ret
        exact ⟨by rw [HCD.out, HP2.out]; rfl, rfl⟩
set_option maxRecDepth 100000 in
set_option maxHeartbeats 2000000 in
theorem code42 (n k : Int) (bs : List Nat) (hb : Bys bs) (zs : List Int) (a : Option Addr) (cap : Nat) (w : World) (hs : SlI w a zs) (hl : zs.length ≤ 1048576) :
    Calls Tryd.prog 42 #[.agg (ccells n k bs).toArray, .slice a zs.length cap] w fun e w' => e = .returned (.int .i64 (szCode n k bs zs)) ∧ Below w.heap.size w w' := by
  have HS := hidd (size_c26 n k hb)
  have HC1 := hidd (show (ccells n k bs).toArray[1]? = some (.int .i64 k) from rfl)
  have HSZ := hidd (fun W h => sizes60 k zs a cap W h hl)
  have HSL := hidd hs
  cases hi : isCol n k bs with
  | false =>
    have HI := hidd hi
    rw [szCode_1 hi]
    clear hi hs
    go_enter Tryd.func42, Tryd.ntmps42
    go_wp2_with (refine wpList_load_row rfl 28 (.tmp 2) rfl w.heap.size rfl 28 _ (0,0) _ (Blk.new _ _ _ _ rfl) Tryd.underlying28 rfl HS.out ?_)
    refine (l01Is_any n k bs hb _).mono ?_
    rintro e w1 ⟨rfl, hb1⟩
    rw [HI.out]
    have G := hidd (((Below.refl w.heap.size w).alloc (Nat.le_refl _) (.cells (ccells n k bs).toArray 28)).trans (hb1.mono (by simp)))
    clear hb1
    go_wp2_with fail
    go_ret
    exact ⟨rfl, G.out⟩
  | true =>
    have HI := hidd hi
    have hv : szCode n k bs zs = if szOk k zs then 0 else 2 := by unfold szCode; rw [hi, if_pos rfl]
    obtain ⟨v, hve⟩ : ∃ v : Int, v = if szOk k zs then 0 else 2 := ⟨_, rfl⟩
    rw [← hve] at HSZ hv
    rw [hv]
    clear hi hs hv hve
    go_enter Tryd.func42, Tryd.ntmps42
    go_wp2_with (refine wpList_load_row rfl 28 (.tmp 2) rfl w.heap.size rfl 28 _ (0,0) _ (Blk.new _ _ _ _ rfl) Tryd.underlying28 rfl HS.out ?_)
    refine (l01Is_any n k bs hb _).mono ?_
    rintro e w1 ⟨rfl, hb1⟩
    rw [HI.out]
    have c1 := ((Blk.new w (ccells n k bs).toArray 28 _ rfl).below hb1 (by simp)).cell HC1.out
    have G := hidd (((Below.refl w.heap.size w).alloc (Nat.le_refl _) (.cells (ccells n k bs).toArray 28)).trans (hb1.mono (by simp)))
    clear hb1
    go_wp2_with fail
    refine (HSZ.out _ (HSL.out.below G.out (Nat.le_refl _))).mono ?_
    rintro e w2 ⟨rfl, rfl⟩
    go_wp2_with fail
    go_ret
    exact ⟨rfl, G.out⟩
set_option maxRecDepth 100000 in
set_option maxHeartbeats 4000000 in
theorem avoids44 (N K : Nat) (bs : List Nat) (hb : Bys bs) (zs : List Int) (a : Option Addr) (cap : Nat) (w : World) (hs : SlI w a zs) (hl : zs.length = K) (n1 : 1 ≤ N) (hN17 : N ≤ 17) (hK : K ≤ 4) (hsz : szP zs K = true) :
    Calls Tryd.prog 44 #[.agg (ccells (N : Int) (K : Int) bs).toArray, .slice a K cap] w fun e w' => e = .returned (.bool (avP N bs zs K)) ∧ Below w.heap.size w w' := by
  have HS := hidd (size_c26 (N : Int) (K : Int) hb)
  have HC0 := hidd (show (ccells (N : Int) (K : Int) bs).toArray[0]? = some (.int .i64 (N : Int)) from rfl)
  have HC1 := hidd (show (ccells (N : Int) (K : Int) bs).toArray[1]? = some (.int .i64 (K : Int)) from rfl)
  have HSL := hidd hs
  have HLZ := hidd hl
  have HSZ := hidd hsz
  obtain ⟨FU, Y, hFU, hFU17, hY, hmn, hu, hsh, hsh2, hfu, hfu2⟩ := full_facts n1 hN17
  have HFU := hidd hFU
  clear hs hl hsz hFU hY
  go_enter Tryd.func44, Tryd.ntmps44
  go_wp2_with fail
  go_loopw [5] (fun e wr => ∃ d : Nat, d ≤ K ∧ e = .int .i64 (d : Int) ∧ Hid (avP N bs zs d = true ∧ Blk wr w.heap.size (ccells (N : Int) (K : Int) bs).toArray 28 ∧ Below w.heap.size w wr)) (fun e _ => K - (intOf e).toNat)
  case atStart => exact ⟨0, Nat.zero_le _, rfl, rfl, Blk.new _ _ _ _ rfl, (Below.refl _ _).alloc (Nat.le_refl _) _⟩
  case round =>
    obtain ⟨d, hd, rfl, HK⟩ := hrel
    have c1 := HK.out.2.1.cell HC1.out
    by_cases hlt : d < K
    · have hin := inB_bd (szP_get HSZ.out hlt)
      obtain ⟨m, hm⟩ := Int.eq_ofNat_of_zero_le (show 0 ≤ zs.getD d 0 by omega)
      have hm17 : m ≤ 17 := by omega
      rcases HSL.out with hz | ⟨bl, off, ha, hc⟩
      · have := HLZ.out; rw [hz] at this; simp at this; omega
      · subst ha
        have hcd := hc d (by have := HLZ.out; omega)
        rw [hm] at hcd
        have hst := avP_step N bs zs d
        have hfa := avP_fall (N := N) (bs := bs) (zs := zs) (d := d) (m := K)
        rw [hm, Int.toNat_natCast, clqL_has, ← HFU.out] at hst hfa
        rw [HK.out.1, Bool.true_and] at hst
        have HLI := hidd (fun W => clq69 N (K : Int) (d : Int) bs hb n1 hN17 m hm17 FU hFU17 W)
        obtain ⟨X, hX⟩ : ∃ X, X = hasK (rwN bs (d : Int) N) N m FU := ⟨_, rfl⟩
        rw [← hX] at HLI hst hfa
        have HCD := hidd (fun W (h : Below w.heap.size w W) => cell_below hcd h)
        have HST := hidd hst
        have HFA := hidd hfa
        clear hc hcd hst hfa hX hm hin
        go_wp2_with fail
        refine wp_region_quiet_at (fun w' => Blk w' w.heap.size (ccells (N : Int) (K : Int) bs).toArray 28 ∧ Below w.heap.size w w') rfl (by kernel_rfl) (show Blk wr.drew w.heap.size (ccells (N : Int) (K : Int) bs).toArray 28 ∧ Below w.heap.size w wr.drew from ⟨HK.out.2.1.drew, below_drewN HK.out.2.2 1⟩) ?_
        refine qs rfl (fun KQ hKQ => ?_)
        apply Exists.intro
        refine ⟨fun w' hw' => ?_, ?_⟩
        · exact quietRow 28 (.tmp 2) rfl w.heap.size rfl 28 _ _ hw'.1 Tryd.underlying28 rfl HS.out
        go_simp
        refine hKQ _ ?_
        clear hKQ KQ
        refine qs rfl (fun KQ hKQ => ?_)
        apply Exists.intro
        refine ⟨fun w' hw' => ?_, ?_⟩
        · go_simp; exact rfl
        go_simp
        refine hKQ _ ?_
        clear hKQ KQ
        refine qs rfl (fun KQ hKQ => ?_)
        apply Exists.intro
        refine ⟨fun w' hw' => ?_, ?_⟩
        · go_simp; exact rfl
        go_simp
        refine hKQ _ ?_
        clear hKQ KQ
        refine qs rfl (fun KQ hKQ => ?_)
        apply Exists.intro
        refine ⟨fun w' hw' => ?_, ?_⟩
        · have e0 := hw'.1.cell HC0.out; go_simp; exact rfl
        go_simp
        refine hKQ _ ?_
        clear hKQ KQ
        refine qs rfl (fun KQ hKQ => ?_)
        apply Exists.intro
        refine ⟨fun w' hw' => ?_, ?_⟩
        · go_simp; exact rfl
        go_simp
        refine hKQ _ ?_
        clear hKQ KQ
        refine qs rfl (fun KQ hKQ => ?_)
        apply Exists.intro
        refine ⟨fun w' hw' => ?_, ?_⟩
        · go_simp; exact rfl
        go_simp
        refine hKQ _ ?_
        clear hKQ KQ
        refine qs rfl (fun KQ hKQ => ?_)
        apply Exists.intro
        refine ⟨fun w' hw' => ?_, ?_⟩
        · go_simp; exact rfl
        go_simp
        refine hKQ _ ?_
        clear hKQ KQ
        refine qs rfl (fun KQ hKQ => ?_)
        apply Exists.intro
        refine ⟨fun w' hw' => ?_, ?_⟩
        · go_simp; exact rfl
        go_simp
        refine hKQ _ ?_
        clear hKQ KQ
        refine qs rfl (fun KQ hKQ => ?_)
        apply Exists.intro
        refine ⟨fun w' hw' => ?_, ?_⟩
        · go_simp; exact rfl
        go_simp
        refine hKQ _ ?_
        clear hKQ KQ
        refine qs rfl (fun KQ hKQ => ?_)
        apply Exists.intro
        refine ⟨fun w' hw' => ?_, ?_⟩
        · go_simp; exact rfl
        go_simp
        refine hKQ _ ?_
        clear hKQ KQ
        refine qs rfl (fun KQ hKQ => ?_)
        apply Exists.intro
        refine ⟨fun w' hw' => ?_, ?_⟩
        · have e1 := HCD.out _ hw'.2; go_simp; exact rfl
        go_simp
        refine hKQ _ ?_
        clear hKQ KQ
        refine qs rfl (fun KQ hKQ => ?_)
        apply Exists.intro
        refine ⟨fun w' hw' => ?_, ?_⟩
        · go_simp; exact (HLI.out _).mono fun _ _ h => ⟨h.1, hw'.1.below h.2 hw'.1.lt, hw'.2.trans (h.2.mono hw'.2.size)⟩
        go_simp
        refine hKQ _ ?_
        clear hKQ KQ
        refine wpQuiet_nil ?_
        intro w' hw'
        have HW := hidd hw'
        clear hw'
        cases X with
        | true =>
          have HE := hidd (HFA.out rfl hlt)
          go_wp2_with fail
          go_ret
          exact ⟨by rw [HE.out]; rfl, HW.out.2⟩
        | false =>
          go_wp2_with fail
          go_roundw
          case rel => exact ⟨d + 1, by omega, by go_num, HST.out, HW.out⟩
          case measure => simp [intOf]; omega
    · have hde : d = K := by omega
      have HE := hidd (show avP N bs zs K = true by rw [← hde]; exact HK.out.1)
      clear hde
      go_wp2_with fail
      go_ret
      exact ⟨by rw [HE.out]; rfl, HK.out.2.2⟩
end Go.Proofs.YtckffliiidgilaaDoor
