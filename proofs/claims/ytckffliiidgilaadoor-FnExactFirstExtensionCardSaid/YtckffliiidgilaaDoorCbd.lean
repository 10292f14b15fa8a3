/- countByDegree and count. -/
import Derived.Test.YtckffliiidgilaaDoorWyf
namespace Go.Proofs.YtckffliiidgilaaDoor
set_option linter.unusedVariables false
set_option linter.unusedSimpArgs false
open Go Go.RowKit Go.Shelf
theorem full_xor {N S : Nat} (h : S < 2 ^ N) : (2 ^ N - 1) ^^^ S = 2 ^ N - 1 - S := by
  rw [show 2 ^ N - 1 - S = 2 ^ N - (S + 1) by omega]
  apply Nat.eq_of_testBit_eq
  intro j
  rw [Nat.testBit_two_pow_sub_succ h, Nat.testBit_xor, Nat.testBit_two_pow_sub_one]
  by_cases hj : j < N
  · simp [hj]
  · have : S.testBit j = false := Nat.testBit_lt_two_pow (Nat.lt_of_lt_of_le h (Nat.pow_le_pow_right (by decide) (by omega)))
    simp [hj, this]
theorem wy_bd3 {bs : List Nat} {N K : Nat} {zs : List Int} {S : Nat} (hN : N ≤ 12) (hK1 : 1 ≤ K) (hK : K ≤ 4) : wyW bs N K zs (K - 1) S ≤ 68719476736 := by
  have h1 := wy_le (bs := bs) (N := N) (K := K) (zs := zs) (K - 1) S (by omega)
  have a1 : 2 ^ N ≤ 2 ^ 12 := Nat.pow_le_pow_right (by decide) hN
  have a2 : (2 ^ N) ^ (K - 1) ≤ (2 ^ 12) ^ (K - 1) := Nat.pow_le_pow_left a1 _
  have a3 : (2 ^ 12) ^ (K - 1) ≤ (2 ^ 12) ^ 3 := Nat.pow_le_pow_right (by decide) (by omega)
  exact Nat.le_trans h1 (Nat.le_trans a2 (Nat.le_trans a3 (by decide)))
theorem pd_step (bs : List Nat) (N K : Nat) (zs : List Int) (d j : Nat) : pdN bs N K zs d (j + 1) = pdN bs N K zs d j + if fre bs N zs 0 j = true ∧ ones j = d then wyW bs N K zs (K - 1) ((2 ^ N - 1) ^^^ j) else 0 := by unfold pdN; rw [sm]
theorem pd_bd {bs : List Nat} {N K : Nat} {zs : List Int} (hN : N ≤ 12) (hK1 : 1 ≤ K) (hK : K ≤ 4) (d : Nat) {j : Nat} (hj : j ≤ 4096) : pdN bs N K zs d j ≤ 281474976710656 := by
  have h1 : pdN bs N K zs d j ≤ j * 68719476736 := sm_le j fun S _ => by
    split
    · exact wy_bd3 hN hK1 hK
    · omega
  have h2 : j * 68719476736 ≤ 4096 * 68719476736 := Nat.mul_le_mul_right _ hj
  omega
def cdL (bs : List Nat) (N K : Nat) (zs : List Int) : List Int := dgL (N + 1) (fun d => pdN bs N K zs d (2 ^ N))
theorem ones_N {S N : Nat} (h : S < 2 ^ N) : ones S ≤ N := by rw [ones_cnt h]; exact cnt_le _ _
def RelD (fr : Nat → Bool) (oth f : Nat → Nat) (g3 g4 g6 D Y : Nat) (w wr : World) : Prop :=
  Blk wr g3 (icells (dgL D f)).toArray 2 ∧ Blk wr g4 (icells (dgL Y oth)).toArray 2 ∧ Blk wr g6 (bcl fr Y Y).toArray 4 ∧ Below w.heap.size w wr
theorem RelD.drew {fr : Nat → Bool} {oth f : Nat → Nat} {g3 g4 g6 D Y : Nat} {w wr : World} (h : RelD fr oth f g3 g4 g6 D Y w wr) : RelD fr oth f g3 g4 g6 D Y w wr.drew :=
  ⟨h.1.drew, h.2.1.drew, h.2.2.1.drew, below_drewN h.2.2.2 1⟩
set_option maxRecDepth 100000 in
set_option maxHeartbeats 4000000 in
theorem cbd57 (N K : Nat) (bs : List Nat) (hb : Bys bs) (zs : List Int) (a : Option Addr) (cap : Nat) (hl : zs.length = K) (n1 : 1 ≤ N) (hN12 : N ≤ 12) (hK1 : 1 ≤ K) (hK : K ≤ 4) (h2 : no1 zs K) (hsz : szP zs K = true) (w : World) (hs : SlI w a zs) :
    Calls Tryd.prog 57 #[.agg (scl (N : Int) (K : Int) bs a K cap).toArray] w fun r w' => ∃ g : Nat, r = .returned (.slice (some ⟨g, 0, none⟩) (N + 1) (N + 1)) ∧ w.heap.size ≤ g ∧ Blk w' g (icells (cdL bs N K zs)).toArray 2 ∧ Below w.heap.size w w' := by
  have HWY := hidd (fun W h => wyf86 N K bs hb zs a cap hl n1 hN12 hK h2 hsz (K - 1) (by omega) W h)
  have HFR := hidd (fun W h => frs85 N K 0 bs hb zs a cap W h hl n1 (by omega) hK h2 hsz (by omega))
  rw [show K - (K - 1) = 1 by omega] at HWY
  have HSL := hidd hs
  have HS := hidd (size_s56 (n := (N : Int)) (k := (K : Int)) hb a K cap)
  obtain ⟨fr, hfr⟩ : ∃ fr, fr = fre bs N zs 0 := ⟨_, rfl⟩
  obtain ⟨oth, hoth⟩ : ∃ oth, oth = wyF bs N K zs (K - 1) := ⟨_, rfl⟩
  obtain ⟨pd, hpd⟩ : ∃ pd : Nat → Nat → Nat, pd = fun j d => pdN bs N K zs d j := ⟨_, rfl⟩
  have HPS := hidd (fun d j (hj : j < 2 ^ N) => (show pd (j + 1) d = pd j d + if fr j = true ∧ ones j = d then oth (2 ^ N - 1 - j) else 0 by
    rw [hpd, hfr, hoth]; show pdN bs N K zs d (j + 1) = _; rw [pd_step, full_xor hj]; rfl))
  have HPB := hidd (fun d j (hj : j ≤ 4096) => (show pd j d ≤ 281474976710656 by rw [hpd]; exact pd_bd hN12 hK1 hK d hj))
  have HOB := hidd (fun S => (show oth S ≤ 68719476736 by rw [hoth]; exact wy_bd3 hN12 hK1 hK))
  have HP0 := hidd (show (fun _ => 0 : Nat → Nat) = pd 0 by rw [hpd]; rfl)
  have hres : cdL bs N K zs = dgL (N + 1) (pd (2 ^ N)) := by rw [hpd]; rfl
  rw [← hoth] at HWY
  rw [← hfr] at HFR
  rw [hres]
  have HON := hidd (fun S (h : S < 2 ^ N) => ones_N h)
  obtain ⟨Y, hYN⟩ : ∃ Y, Y = 2 ^ N := ⟨_, rfl⟩
  have hY17 : Y ≤ 4096 := by rw [hYN]; exact Nat.pow_le_pow_right (by decide) hN12
  have hY1 : 1 ≤ Y := by rw [hYN]; exact Nat.one_le_two_pow
  rw [← hYN] at HWY HFR HPS HON ⊢
  have hmk := make29 (N + 1) (by omega)
  rw [show ((N + 1 : Nat) : Int) = (N : Int) + 1 by omega] at hmk
  have hNw : IntKind.i64.wrap ((N : Int) + 1) = (N : Int) + 1 := IntWalk.i64_in _ (by omega)
  have hNw2 : wrap64 ((N : Int) + 1) = (N : Int) + 1 := IntWalk.wrap64_in _ ⟨by omega, by omega⟩
  obtain ⟨D, hD⟩ : ∃ D, D = N + 1 := ⟨_, rfl⟩
  rw [← hD] at hmk ⊢
  have HDD := hidd hD
  clear hD
  obtain ⟨C, hC⟩ : ∃ C, C = (scl (N : Int) (K : Int) bs a K cap).toArray := ⟨_, rfl⟩
  have hC0 : C[0]? = some (.int .i64 (N : Int)) := by rw [hC]; exact scl_fst 0 _ rfl
  rw [← hC] at HWY HFR HS ⊢
  have HB := Blk.new w C 56 _ rfl
  have c0 := HB.cell hC0
  obtain ⟨W2, hW2⟩ : ∃ W2, W2 = (w.alloc (.cells C 56)).alloc (.cells (zrow D) 2) := ⟨_, rfl⟩
  have G := hidd (show Blk W2 w.heap.size C 56 ∧ Blk W2 (w.heap.size + 1) (icells (dgL D fun _ => 0)).toArray 2 ∧ Below w.heap.size w W2 from by
    rw [hW2]; exact ⟨HB.alloc _, by rw [← zrow_dg]; exact Blk.new _ _ _ _ (by simp), ((Below.refl _ _).alloc (Nat.le_refl _) _).alloc (by simp) _⟩)
  clear hC hs HB hfr hoth hpd hres hC0 h2 hsz hb hYN hl
  go_enter Tryd.func57, Tryd.ntmps57
  go_upto_region 2 with fail
  rw [← hW2]
  clear hW2 hmk hNw hNw2 c0
  go_wp2_with (refine wpList_load_row rfl 56 (.tmp 1) rfl w.heap.size rfl 56 _ (0,0) _ G.out.1 Tryd.underlying56 rfl HS.out ?_)
  refine (HWY.out _ (HSL.out.below G.out.2.2 (Nat.le_refl _))).mono ?_
  rintro r X1 ⟨g4, rfl, l4, k4, hA⟩
  have hAs := hA.size
  have hlt := G.out.2.1.lt
  have G1 := hidd (And.intro (G.out.1.below hA G.out.1.lt) (And.intro (G.out.2.1.below hA hlt) (And.intro k4 (G.out.2.2.trans (hA.mono G.out.2.2.size)))))
  clear hA k4
  go_wp2_with (refine wpList_load_row rfl 56 (.tmp 1) rfl w.heap.size rfl 56 _ (0,0) _ G1.out.1 Tryd.underlying56 rfl HS.out ?_)
  refine (HFR.out _ (HSL.out.below G1.out.2.2.2 (Nat.le_refl _))).mono ?_
  rintro r X2 ⟨g6, rfl, l6, k6, hB⟩
  have h34 : w.heap.size + 1 < g4 := by omega
  have h36 : w.heap.size + 1 < g6 := by omega
  have G2 := hidd (show RelD fr oth (pd 0) (w.heap.size + 1) g4 g6 D Y w X2 from by
    rw [← HP0.out]
    exact ⟨G1.out.2.1.below hB G1.out.2.1.lt, G1.out.2.2.1.below hB G1.out.2.2.1.lt, k6, G1.out.2.2.2.trans (hB.mono G1.out.2.2.2.size)⟩)
  clear hB k6 hAs hlt l4 l6
  go_wp2_with fail
  go_loopw [17] (fun s wr => ∃ j : Nat, j ≤ Y ∧ s = .int .i64 (j : Int) ∧ Hid (RelD fr oth (pd j) (w.heap.size + 1) g4 g6 D Y w wr)) (fun s _ => Y - (intOf s).toNat)
  case atStart => exact ⟨0, Nat.zero_le _, rfl, G2.out⟩
  case round =>
  obtain ⟨j, hj, rfl, HK⟩ := hrel
  by_cases hlt : j < Y
  · have hltI : decide ((j : Int) < (Y : Int)) = true := by simp; omega
    have cF := HK.out.2.2.1.cell (bcl_get fr (j := Y) hlt)
    rw [decide_eq_true hlt, Bool.true_and] at cF
    cases hf : fr j with
    | false =>
      rw [hf] at cF
      have hff : pd (j + 1) = pd j := by funext d; rw [HPS.out d j hlt, if_neg (by rw [hf]; simp)]; rfl
      have H3 := hidd (show RelD fr oth (pd (j + 1)) (w.heap.size + 1) g4 g6 D Y w wr by rw [hff]; exact HK.out)
      clear hff hf
      go_wp2_with fail
      go_roundw
      case rel => exact ⟨j + 1, by omega, by go_num, H3.out⟩
      case measure => simp [intOf]; omega
    | true =>
      rw [hf] at cF
      have hw32 : IntKind.u32.wrap (j : Int) = (j : Int) := u32_in (by omega) (by omega)
      have HZ := hidd (fun W => size34 j (show j < 2 ^ 17 by omega) W)
      have hoN := HON.out j hlt
      have hpb := HPB.out (ones j) j (by omega)
      obtain ⟨x, hx⟩ : ∃ x, x = Y - 1 - j := ⟨_, rfl⟩
      have hxY : x < Y := by omega
      have hob := HOB.out x
      obtain ⟨on, hon⟩ : ∃ on, on = ones j := ⟨_, rfl⟩
      rw [← hon] at HZ hoN hpb
      have honD : on < D := by have := HDD.out; omega
      have hyw : IntKind.i64.wrap ((Y : Int) - 1) = (Y : Int) - 1 := IntWalk.i64_in _ (by omega)
      have hyw1 : wrap64 ((Y : Int) - 1) = (Y : Int) - 1 := IntWalk.wrap64_in _ ⟨by omega, by omega⟩
      have hyx : IntKind.i64.wrap ((Y : Int) - 1 - (j : Int)) = (x : Int) := by rw [IntWalk.i64_in _ (by omega)]; omega
      have hyx1 : wrap64 ((Y : Int) - 1 - (j : Int)) = (x : Int) := by rw [IntWalk.wrap64_in _ ⟨by omega, by omega⟩]; omega
      obtain ⟨v, hv⟩ : ∃ v, v = pd j on := ⟨_, rfl⟩
      obtain ⟨o, ho⟩ : ∃ o, o = oth x := ⟨_, rfl⟩
      rw [← hv] at hpb
      rw [← ho] at hob
      have hsum : IntKind.i64.wrap ((v : Int) + (o : Int)) = (v : Int) + (o : Int) := IntWalk.i64_in _ (by omega)
      have hsum2 : wrap64 ((v : Int) + (o : Int)) = (v : Int) + (o : Int) := IntWalk.wrap64_in _ ⟨by omega, by omega⟩
      have HCA := hidd (fun W (h : RelD fr oth (pd j) (w.heap.size + 1) g4 g6 D Y w W) => (And.intro (show W.cell? ⟨w.heap.size + 1, on, none⟩ = some (.int .i64 (v : Int)) by rw [hv]; exact dg_cell h.1 honD) (And.intro (show W.cell? ⟨g4, x, none⟩ = some (.int .i64 (o : Int)) by rw [ho]; exact dg_cell h.2.1 hxY) (h.1.fro on))))
      have HPT := hidd (fun W (h : RelD fr oth (pd j) (w.heap.size + 1) g4 g6 D Y w W) => (show RelD fr oth (pd (j + 1)) (w.heap.size + 1) g4 g6 D Y w (W.setCell ⟨w.heap.size + 1, on, none⟩ (.int .i64 ((v : Int) + (o : Int)))) by
        have h1 := dg_put (i := on) (v := v + o) h.1
        rw [show ((v + o : Nat) : Int) = (v : Int) + (o : Int) by omega] at h1
        have h5 : (fun p => if p = on then v + o else pd j p) = pd (j + 1) := by
          funext p
          rw [HPS.out p j hlt, hf, ← hon, ← hx, ← ho]
          by_cases h6 : p = on
          · rw [if_pos h6, if_pos ⟨rfl, h6.symm⟩, h6, hv]
          · rw [if_neg h6, if_neg (fun h => h6 h.2.symm)]; rfl
        rw [h5] at h1
        exact ⟨h1, h.2.1.other _ _ (by show g4 ≠ w.heap.size + 1; omega), h.2.2.1.other _ _ (by show g6 ≠ w.heap.size + 1; omega), h.2.2.2.setCell (by show w.heap.size ≤ w.heap.size + 1; omega) _⟩))
      clear hf hon hv ho hx
      go_wp2_with fail
      refine wp_region_last_lit 16 (fun w' => RelD fr oth (pd j) (w.heap.size + 1) g4 g6 D Y w w') rfl rfl (by kernel_rfl) (HK.out.drew) (by kernel_rfl) (by kernel_rfl) (by kernel_rfl) ?_
      simp only [List.take_succ_cons, List.take_zero, List.cons_append, List.nil_append, idle]
      refine qs rfl (fun KQ hKQ => ?_)
      apply Exists.intro
      refine ⟨fun w' hw' => ?_, ?_⟩
      · go_simp; exact rfl
      go_simp
      refine hKQ _ ?_
      clear hKQ KQ
      refine qs rfl (fun KQ hKQ => ?_)
      apply Exists.intro
      refine ⟨fun w' hw' => ?_, ?_⟩
      · go_simp; exact rfl
      go_simp
      refine hKQ _ ?_
      clear hKQ KQ
      refine qs rfl (fun KQ hKQ => ?_)
      apply Exists.intro
      refine ⟨fun w' hw' => ?_, ?_⟩
      · go_simp; exact rfl
      go_simp
      refine hKQ _ ?_
      clear hKQ KQ
      refine qs rfl (fun KQ hKQ => ?_)
      apply Exists.intro
      refine ⟨fun w' hw' => ?_, ?_⟩
      · go_simp; exact (HZ.out _).mono fun _ _ h => ⟨h.1, by rw [h.2]; exact hw'.drew⟩
      go_simp
      refine hKQ _ ?_
      clear hKQ KQ
      refine qs rfl (fun KQ hKQ => ?_)
      apply Exists.intro
      refine ⟨fun w' hw' => ?_, ?_⟩
      · go_simp; exact rfl
      go_simp
      refine hKQ _ ?_
      clear hKQ KQ
      refine qs rfl (fun KQ hKQ => ?_)
      apply Exists.intro
      refine ⟨fun w' hw' => ?_, ?_⟩
      · have e1 := (HCA.out w' hw').1; go_simp; exact rfl
      go_simp
      refine hKQ _ ?_
      clear hKQ KQ
      refine qs rfl (fun KQ hKQ => ?_)
      apply Exists.intro
      refine ⟨fun w' hw' => ?_, ?_⟩
      · go_simp; exact rfl
      go_simp
      refine hKQ _ ?_
      clear hKQ KQ
      refine qs rfl (fun KQ hKQ => ?_)
      apply Exists.intro
      refine ⟨fun w' hw' => ?_, ?_⟩
      · go_simp; exact rfl
      go_simp
      refine hKQ _ ?_
      clear hKQ KQ
      refine qs rfl (fun KQ hKQ => ?_)
      apply Exists.intro
      refine ⟨fun w' hw' => ?_, ?_⟩
      · go_simp; exact rfl
      go_simp
      refine hKQ _ ?_
      clear hKQ KQ
      refine qs rfl (fun KQ hKQ => ?_)
      apply Exists.intro
      refine ⟨fun w' hw' => ?_, ?_⟩
      · go_simp; exact rfl
      go_simp
      refine hKQ _ ?_
      clear hKQ KQ
      refine qs rfl (fun KQ hKQ => ?_)
      apply Exists.intro
      refine ⟨fun w' hw' => ?_, ?_⟩
      · go_simp; exact rfl
      go_simp
      refine hKQ _ ?_
      clear hKQ KQ
      refine qs rfl (fun KQ hKQ => ?_)
      apply Exists.intro
      refine ⟨fun w' hw' => ?_, ?_⟩
      · go_simp; exact rfl
      go_simp
      refine hKQ _ ?_
      clear hKQ KQ
      refine qs rfl (fun KQ hKQ => ?_)
      apply Exists.intro
      refine ⟨fun w' hw' => ?_, ?_⟩
      · go_simp; exact rfl
      go_simp
      refine hKQ _ ?_
      clear hKQ KQ
      refine qs rfl (fun KQ hKQ => ?_)
      apply Exists.intro
      refine ⟨fun w' hw' => ?_, ?_⟩
      · have e1 := (HCA.out w' hw').2.1; go_simp; exact rfl
      go_simp
      refine hKQ _ ?_
      clear hKQ KQ
      refine qs rfl (fun KQ hKQ => ?_)
      apply Exists.intro
      refine ⟨fun w' hw' => ?_, ?_⟩
      · go_simp; exact rfl
      go_simp
      refine hKQ _ ?_
      clear hKQ KQ
      refine qs rfl (fun KQ hKQ => ?_)
      apply Exists.intro
      refine ⟨fun w' hw' => ?_, ?_⟩
      · go_simp; exact rfl
      go_simp
      refine hKQ _ ?_
      clear hKQ KQ
      refine qs rfl (fun KQ hKQ => ?_)
      apply Exists.intro
      refine ⟨fun w' hw' => ?_, ?_⟩
      · go_simp; exact rfl
      go_simp
      refine hKQ _ ?_
      clear hKQ KQ
      refine wpQuiet_nil ?_
      intro w' hw'
      have e1 := (HCA.out w' hw').1
      have e2 := (HCA.out w' hw').2.2
      have H6 := hidd (HPT.out w' hw')
      clear hw'
      go_wp2_with fail
      go_roundw
      case rel => exact ⟨j + 1, by omega, by go_num, H6.out⟩
      case measure => simp [intOf]; omega
  · have hltI : decide ((j : Int) < (Y : Int)) = false := by simp; omega
    have hje : j = Y := by omega
    subst hje
    go_wp2_with fail
    go_ret
    exact ⟨w.heap.size + 1, rfl, by omega, HK.out.1, HK.out.2.2.2⟩
end Go.Proofs.YtckffliiidgilaaDoor
