/- CountExtensions: what it answers; the program's count and the function. -/
import Derived.Test.YtckffliiidgilaaDoorCbd
import Derived.Test.YtckffliiidgilaaDoorEav
namespace Go.Proofs.YtckffliiidgilaaDoor
set_option linter.unusedVariables false
set_option linter.unusedSimpArgs false
open Go Go.RowKit Go.Extern.Stop Go.Stop Go.Extern
theorem no1_of_av {N K : Nat} {bs : List Nat} {zs : List Int} (n1 : 1 ≤ N) (hsz : szP zs K = true) (hav : avP N bs zs K = true) : no1 zs K := by
  intro c hc
  have hin := inB_bd (szP_get hsz hc)
  by_cases h : zs.getD c 0 = 1
  · exfalso
    have h1 : (clqL bs (c : Int) N (zs.getD c 0).toNat).isEmpty = false := by
      rw [clqL_has, h]
      have : hasK (rwN bs (c : Int) N) N (1 : Int).toNat (2 ^ N - 1) = true := by
        refine hasK_of 1 _ [0] ⟨by simp, rfl, fun p hp => ?_, fun p hp q hq hne => ?_⟩
        · rw [List.mem_singleton] at hp
          subst hp
          exact ⟨by omega, by rw [Nat.testBit_two_pow_sub_one]; simp; omega⟩
        · rw [List.mem_singleton] at hp hq
          exact absurd (hp.trans hq.symm) hne
      rw [this]; rfl
    rw [avP_fall h1 hc] at hav
    cases hav
  · omega
/-- What the sum of the counts is. -/
def cnS (bs : List Nat) (N K : Nat) (zs : List Int) (j : Nat) : Nat := sm (fun d => pdN bs N K zs d (2 ^ N)) j
def ceV (n k : Int) (bs : List Nat) (zs : List Int) : Int := if eaC 12 n k bs zs = 0 then (cnS bs n.toNat k.toNat zs (n.toNat + 1) : Int) else 0
theorem ceV_bad {n k : Int} {bs : List Nat} {zs : List Int} (h : eaC 12 n k bs zs ≠ 0) : ceV n k bs zs = 0 := by unfold ceV; rw [if_neg h]
theorem cdL_get {bs : List Nat} {N K d : Nat} {zs : List Int} (h : d < N + 1) : (cdL bs N K zs).getD d 0 = (pdN bs N K zs d (2 ^ N) : Int) := by unfold cdL; rw [dgL_get h]
theorem cnS_bd {bs : List Nat} {N K j : Nat} {zs : List Int} (hN : N ≤ 12) (hK1 : 1 ≤ K) (hK : K ≤ 4) (hj : j ≤ 13) : cnS bs N K zs j ≤ 3659174697238528 := by
  have h3 : (2 : Nat) ^ N ≤ 2 ^ 12 := Nat.pow_le_pow_right (by decide) hN
  have h1 : cnS bs N K zs j ≤ j * 281474976710656 := sm_le j fun d _ => pd_bd hN hK1 hK d (by omega)
  have h2 : j * 281474976710656 ≤ 13 * 281474976710656 := Nat.mul_le_mul_right _ hj
  omega
theorem cnS_step (bs : List Nat) (N K j : Nat) (zs : List Int) : cnS bs N K zs (j + 1) = cnS bs N K zs j + pdN bs N K zs j (2 ^ N) := by unfold cnS; rw [sm]
set_option maxRecDepth 100000 in
set_option maxHeartbeats 4000000 in
theorem count53 (N K : Nat) (bs : List Nat) (hb : Bys bs) (zs : List Int) (a : Option Addr) (cap : Nat) (hl : zs.length = K) (n1 : 1 ≤ N) (hN12 : N ≤ 12) (hK1 : 1 ≤ K) (hK : K ≤ 4) (h2 : no1 zs K) (hsz : szP zs K = true) (w : World) (hs : SlI w a zs) :
    Calls Tryd.prog 53 #[.agg (scl (N : Int) (K : Int) bs a K cap).toArray] w fun r w' => r = .returned (.int .i64 (cnS bs N K zs (N + 1) : Int)) ∧ Below w.heap.size w w' := by
  have HCB := hidd (fun W h => cbd57 N K bs hb zs a cap hl n1 hN12 hK1 hK h2 hsz W h)
  have HSL := hidd hs
  have HS := hidd (size_s56 (n := (N : Int)) (k := (K : Int)) hb a K cap)
  obtain ⟨D, hD⟩ : ∃ D, D = N + 1 := ⟨_, rfl⟩
  have hD13 : D ≤ 13 := by omega
  obtain ⟨c, hc⟩ : ∃ c : Nat → Nat, c = fun d => pdN bs N K zs d (2 ^ N) := ⟨_, rfl⟩
  obtain ⟨s, hse⟩ : ∃ s : Nat → Nat, s = cnS bs N K zs := ⟨_, rfl⟩
  have HST := hidd (fun j => (show s (j + 1) = s j + c j by rw [hse, hc]; exact cnS_step _ _ _ _ _))
  have HBD := hidd (fun j (hj : j ≤ 13) => (show s j ≤ 3659174697238528 by rw [hse]; exact cnS_bd hN12 hK1 hK hj))
  have HS0 := hidd (show s 0 = 0 by rw [hse]; rfl)
  rw [show cdL bs N K zs = dgL (N + 1) c by rw [hc]; rfl, ← hD] at HCB
  rw [← hse, ← hD]
  obtain ⟨C, hC⟩ : ∃ C, C = (scl (N : Int) (K : Int) bs a K cap).toArray := ⟨_, rfl⟩
  rw [← hC] at HCB HS ⊢
  have G := hidd (show Blk (w.alloc (.cells C 56)) w.heap.size C 56 ∧ Below w.heap.size w (w.alloc (.cells C 56)) from ⟨Blk.new _ _ _ _ rfl, (Below.refl _ _).alloc (Nat.le_refl _) _⟩)
  clear hC hs hc hse hD h2 hsz hb hl
  go_enter Tryd.func53, Tryd.ntmps53
  go_wp2_with (refine wpList_load_row rfl 56 (.tmp 1) rfl w.heap.size rfl 56 _ (0,0) _ G.out.1 Tryd.underlying56 rfl HS.out ?_)
  refine (HCB.out _ (HSL.out.below G.out.2 (Nat.le_refl _))).mono ?_
  rintro r w2 ⟨g, rfl, hg, kg, hb2⟩
  have G2 := hidd (And.intro kg (G.out.2.trans (hb2.mono G.out.2.size)))
  clear hb2 kg
  go_wp2_with fail
  go_loopw [3, 9] (fun v e wr => ∃ j : Nat, j ≤ D ∧ v = .int .i64 (s j : Int) ∧ e = .int .i64 (j : Int) ∧ w2 = wr) (fun _ e _ => D - (intOf e).toNat)
  case atStart => exact ⟨0, Nat.zero_le _, by rw [HS0.out]; rfl, rfl, rfl⟩
  case round =>
  obtain ⟨j, hj, rfl, rfl, hww⟩ := hrel
  obtain rfl : w2 = wr := hww
  by_cases hlt : j < D
  · have hltI : decide ((j : Int) < (D : Int)) = true := by simp; omega
    have cj := dg_cell G2.out.1 hlt
    have h1 := HBD.out j (by omega)
    have h2 := HBD.out (j + 1) (by omega)
    have h3 := HST.out j
    obtain ⟨x, hx⟩ : ∃ x, x = c j := ⟨_, rfl⟩
    obtain ⟨y, hy⟩ : ∃ y, y = s j := ⟨_, rfl⟩
    rw [← hx, ← hy] at h3
    rw [← hx] at cj
    rw [← hy] at h1 ⊢
    have hsum : IntKind.i64.wrap ((y : Int) + (x : Int)) = (y : Int) + (x : Int) := IntWalk.i64_in _ (by omega)
    have hsum2 : wrap64 ((y : Int) + (x : Int)) = (y : Int) + (x : Int) := IntWalk.wrap64_in _ ⟨by omega, by omega⟩
    have H3 := hidd h3
    clear hx hy h3 h1 h2
    go_wp2_with fail
    go_roundw
    case rel => exact ⟨j + 1, by omega, by rw [H3.out]; go_num, by go_num, trivial⟩
    case measure => simp [intOf]; omega
  · have hltI : decide ((j : Int) < (D : Int)) = false := by simp; omega
    have hje : j = D := by omega
    subst hje
    go_wp2_with fail
    go_ret
    exact ⟨rfl, G2.out.2⟩
set_option maxRecDepth 100000 in
set_option maxHeartbeats 4000000 in
theorem impl19 (n k : Int) (bs : List Nat) (hb : Bys bs) (zs : List Int) (a : Option Addr) (cap : Nat) (e0 : Addr) (w : World) (hs : SlI w a zs) (hl : zs.length ≤ 1048576) (hE : Er w e0) :
    Calls Tryd.prog 19 #[.agg (ccells n k bs).toArray, .slice a zs.length cap] w fun e w' => e = .returned (.tuple #[.int .i64 (ceV n k bs zs), .int .i64 (eaC 12 n k bs zs)]) ∧ Below w.heap.size w w' := by
  have Hz := zero56
  have HS := hidd (size_c26 n k hb)
  have HSL := hidd hs
  have HE := hidd hE
  have HEN := hidd (fun W h hE => ea47 12 n k bs hb zs a cap e0 W h hl hE)
  have HG := hidd (And.intro (Blk.new w (ccells n k bs).toArray 28 _ rfl) ((Below.refl w.heap.size w).alloc (Nat.le_refl _) (.cells (ccells n k bs).toArray 28)))
  obtain ⟨W0, hW0⟩ : ∃ W0, W0 = w.alloc (.cells (ccells n k bs).toArray 28) := ⟨_, rfl⟩
  rw [← hW0] at HG
  obtain ⟨D, hD⟩ : ∃ D, D = (eaS 12 n k bs zs a cap).toArray := ⟨_, rfl⟩
  obtain ⟨cd, hcd⟩ : ∃ cd, cd = eaC 12 n k bs zs := ⟨_, rfl⟩
  have hDs : (Tryd.prog.info? 56).map (·.size) = some D.size ∧ (scl 0 0 zbl none 0 0).toArray.size = D.size ∧ D.all (·.oneCell') = true := by
    rw [hD]; unfold eaS
    split
    · exact ⟨size_s56 hb _ _ _, by simp [scl_len zbl_bys, scl_len hb], scl_one⟩
    · exact ⟨size_s56 zbl_bys _ _ _, rfl, scl_one⟩
  have HD := hidd hDs
  rw [← hD, ← hcd] at HEN
  have HJ := hidd (fun (W1 : World) (hb1 : Below W0.heap.size W0 W1) =>
    (show Blk (W1.alloc (.cells (scl 0 0 zbl none 0 0).toArray 56)) W1.heap.size (scl 0 0 zbl none 0 0).toArray 56 ∧
        Blk ((W1.alloc (.cells (scl 0 0 zbl none 0 0).toArray 56)).setRow W1.heap.size D) W1.heap.size D 56 ∧
        Blk ((W1.alloc (.cells (scl 0 0 zbl none 0 0).toArray 56)).setRow W1.heap.size D) w.heap.size (ccells n k bs).toArray 28 ∧
        Below w.heap.size w ((W1.alloc (.cells (scl 0 0 zbl none 0 0).toArray 56)).setRow W1.heap.size D) from by
      have k1 := HG.out.1.below hb1 HG.out.1.lt
      have hlt := k1.lt
      have k3 := HG.out.2.trans (hb1.mono HG.out.2.size)
      have k4 : Blk (W1.alloc (.cells (scl 0 0 zbl none 0 0).toArray 56)) W1.heap.size (scl 0 0 zbl none 0 0).toArray 56 := Blk.new _ _ _ _ rfl
      exact ⟨k4, k4.rowSame _, (k1.alloc _).rowOther _ _ (by omega), below_setRow (k3.alloc (by omega) _) (by omega) _⟩))
  clear hDs hs hE
  by_cases h0 : cd = 0
  · have hcd0 : eaC 12 n k bs zs = 0 := hcd.symm.trans h0
    obtain ⟨hsz, hav, hn12⟩ := eaC_ok hcd0
    obtain ⟨hi, ho⟩ := szCode_ok hsz
    obtain ⟨n1, n2, k1, k2⟩ := isCol_bd hi
    obtain ⟨hlk, hsp⟩ := szOk_bd ho
    obtain ⟨N, rfl⟩ := Int.eq_ofNat_of_zero_le (show 0 ≤ n by omega)
    obtain ⟨K, rfl⟩ := Int.eq_ofNat_of_zero_le (show 0 ≤ k by omega)
    have hlK : zs.length = K := by omega
    rw [hlK] at hsp
    have hv : ceV (N : Int) (K : Int) bs zs = (cnS bs N K zs (N + 1) : Int) := by unfold ceV; rw [if_pos hcd0]; rfl
    have hDe : D = (scl (N : Int) (K : Int) bs a K cap).toArray := by rw [hD]; unfold eaS; rw [if_pos hcd0, hlK]
    have HCN := hidd (fun W h => count53 N K bs hb zs a cap hlK (by omega) (by omega) (by omega) (by omega) (no1_of_av (by omega) hsp hav) hsp W h)
    rw [← hDe] at HCN
    rw [hv, ← hcd]
    rw [hlK] at HEN
    rw [hlK]
    obtain ⟨V, hV⟩ : ∃ V, V = cnS bs N K zs (N + 1) := ⟨_, rfl⟩
    rw [← hV] at HCN ⊢
    clear hv hD hcd hsz hav hi ho hlk hsp hcd0 hl hDe hV
    subst h0
    go_enter Tryd.func19, Tryd.ntmps19
    go_upto_region 1 with fail
    rw [← hW0]
    clear hW0
    go_wp2_with (refine wpList_load_row rfl 28 (.tmp 2) rfl w.heap.size rfl 28 _ (0,0) _ HG.out.1 Tryd.underlying28 rfl HS.out ?_)
    refine (HEN.out _ (HSL.out.below HG.out.2 (Nat.le_refl _)) (HE.out.below HG.out.2 HE.out.lt)).mono ?_
    rintro e w1 ⟨rfl, hb1⟩
    have J := hidd (HJ.out w1 hb1)
    clear hb1
    obtain ⟨W4, hW4⟩ : ∃ W4, W4 = (w1.alloc (.cells (scl 0 0 zbl none 0 0).toArray 56)).setRow w1.heap.size D := ⟨_, rfl⟩
    have J3 := hidd J.out.2
    rw [← hW4] at J3
    go_upto_region 2 with (refine wpList_store_row rfl 56 (.tmp 6) (.tmp 12) rfl w1.heap.size _ rfl rfl 56 _ (Blk.new _ _ _ _ rfl) HD.out.1 HD.out.2.1 HD.out.2.2 ?_)
    rw [← hW4]
    clear hW4
    go_wp2_with (refine wpList_load_row rfl 56 (.tmp 6) rfl w1.heap.size rfl 56 _ (0,0) _ J3.out.1 Tryd.underlying56 rfl HD.out.1 ?_)
    refine (HCN.out _ (HSL.out.below J3.out.2.2 (Nat.le_refl _))).mono ?_
    rintro e w5 ⟨rfl, hb5⟩
    have J5 := hidd (J3.out.2.2.trans (hb5.mono J3.out.2.2.size))
    clear hb5
    go_wp2_with fail
    go_ret2
    exact ⟨rfl, J5.out⟩
  · have hne : (cd != 0) = true := by rw [bne_iff_ne]; exact h0
    rw [ceV_bad (by rw [← hcd]; exact h0), ← hcd]
    clear hD hcd
    go_enter Tryd.func19, Tryd.ntmps19
    go_upto_region 1 with fail
    rw [← hW0]
    clear hW0
    go_wp2_with (refine wpList_load_row rfl 28 (.tmp 2) rfl w.heap.size rfl 28 _ (0,0) _ HG.out.1 Tryd.underlying28 rfl HS.out ?_)
    refine (HEN.out _ (HSL.out.below HG.out.2 (Nat.le_refl _)) (HE.out.below HG.out.2 HE.out.lt)).mono ?_
    rintro e w1 ⟨rfl, hb1⟩
    have J := hidd (HJ.out w1 hb1)
    clear hb1
    go_wp2_with (refine wpList_store_row rfl 56 (.tmp 6) (.tmp 12) rfl w1.heap.size _ rfl rfl 56 _ (Blk.new _ _ _ _ rfl) HD.out.1 HD.out.2.1 HD.out.2.2 ?_)
    go_ret2
    exact ⟨rfl, J.out.2.2.2⟩
end Go.Proofs.YtckffliiidgilaaDoor
