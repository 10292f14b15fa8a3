/- GreatestStar: its model and the program. -/
import Derived.Test.YtkiocedhibeieaaDoorPts2
namespace Go.Proofs.YtkiocedhibeieaaDoor
set_option linter.unusedVariables false
set_option linter.unusedSimpArgs false
open Go Go.RowKit Go.Shelf
/-- The least point with the greatest degree among the first j ones. -/
def stC (d : Nat → Nat) : Nat → Nat
  | 0 => 0
  | j + 1 => if d (stC d j) < d j then j else stC d j
theorem stC_lt (d : Nat → Nat) : ∀ {j N}, j ≤ N → 1 ≤ N → stC d j < N
  | 0, N, _, h => h
  | j + 1, N, h, h1 => by
    rw [stC]; split
    · omega
    · exact stC_lt d (by omega) h1
theorem stC_yes {d : Nat → Nat} {j : Nat} (h : d (stC d j) < d j) : stC d (j + 1) = j := by rw [stC, if_pos h]
theorem stC_no {d : Nat → Nat} {j : Nat} (h : ¬ d (stC d j) < d j) : stC d (j + 1) = stC d j := by rw [stC, if_neg h]
theorem stC_congr {d e : Nat → Nat} {N : Nat} (h : ∀ p, p < N → d p = e p) (h1 : 1 ≤ N) : ∀ j, j ≤ N → stC d j = stC e j
  | 0, _ => rfl
  | j + 1, hj => by
    have ih := stC_congr h h1 j (by omega)
    have hl := stC_lt e (show j ≤ N by omega) h1
    rw [stC, stC, ih, h j (by omega), h _ hl]
set_option maxRecDepth 100000 in
set_option maxHeartbeats 1000000 in
theorem star64 (N : Nat) (F : Nat → Nat) (w : World) (N1 : 1 ≤ N) (N2 : N ≤ 17) (hF : ∀ p, F p < 2 ^ 17) (hT : Tz w) (hw0 : 0 < w.heap.size) :
    Calls Tryd.prog 64 #[.agg (gcell (2 ^ N - 1) F).toArray] w fun e w' => e = .returned (.tuple #[.int .i64 (stC (fun p => ones (F p)) N : Nat), .int .i64 (ones (F (stC (fun p => ones (F p)) N)) : Nat)]) ∧ Below w.heap.size w w' := by
  have hP := fun W hW h0 => points47X (2 ^ N - 1) (pow_lt17 N2) W hW h0
  rw [setL_full N2] at hP
  obtain ⟨zs, hzs⟩ : ∃ zs, zs = (List.range N).map fun (x : Nat) => (x : Int) := ⟨_, rfl⟩
  have hzl : zs.length = N := by rw [hzs]; simp
  have hzg : ∀ j, j < N → zs.getD j 0 = (j : Int) := fun j hj => by rw [hzs]; simp [List.getD, hj]
  rw [← hzs, hzl] at hP
  have HP := hidd hP
  have HZL := hidd hzl
  have HZG := hidd hzg
  obtain ⟨U, hU⟩ : ∃ U, U = 2 ^ N - 1 := ⟨_, rfl⟩
  rw [← hU] at HP ⊢
  have HF := hidd (fun p W => size34 (F p) (hF p) W)
  obtain ⟨d, hd⟩ : ∃ d, d = fun p => ones (F p) := ⟨_, rfl⟩
  have HD := hidd (fun p => (by rw [hd] : d p = ones (F p)))
  have HB := hidd (fun p => (by rw [hd]; exact ones_17 (hF p) : d p ≤ 17))
  rw [← hd]
  have HT := hidd hT
  clear hP hzl hzg hzs hU hF hd hT
  have hB0 : Blk (w.alloc (.cells (gcell U F).toArray 79)) w.heap.size (gcell U F).toArray 79 := Blk.new _ _ _ _ rfl
  have H0 := hidd hB0
  have HC0 := hidd (show (gcell U F).toArray[0]? = some (.int .u32 (U : Int)) from rfl)
  have HBW := hidd ((Below.refl w.heap.size w).alloc (Nat.le_refl _) (.cells (gcell U F).toArray 79))
  have c0 := H0.out.cell HC0.out
  clear hB0
  go_enter Tryd.func64, Tryd.ntmps64
  go_wp2_with fail
  refine (HP.out _ (HT.out.below HBW.out hw0) (by simp)).mono ?_
  rintro e w1 ⟨a, cap, rfl, ho, hb1⟩
  have G := hidd (show Blk w1 w.heap.size (gcell U F).toArray 79 ∧ Below w.heap.size w w1 ∧ SlI w1 a zs from ⟨H0.out.below hb1 H0.out.lt, HBW.out.trans (hb1.mono (by simp)), ho.sl⟩)
  clear hb1 ho
  go_wp2_with fail
  go_loopw [4, 11] (fun c i wr => ∃ j : Nat, j ≤ N ∧ i = .int .i64 (j : Int) ∧ c = .int .i64 (stC d j : Nat) ∧ Hid (∃ m, wr = w1.drewN m)) (fun _ i _ => N - (intOf i).toNat)
  case atStart => exact ⟨0, Nat.zero_le _, rfl, rfl, 0, rfl⟩
  case round =>
    obtain ⟨j, hj, rfl, rfl, HR⟩ := hrel
    obtain ⟨m, hm⟩ := HR.out
    have HM := hidd hm
    have hBW : Below w1.heap.size w1 wr := by rw [hm]; exact below_drewN (Below.refl _ _) _
    clear hm HR
    have K := hidd (show Blk wr w.heap.size (gcell U F).toArray 79 ∧ SlI wr a zs from ⟨G.out.1.below hBW G.out.1.lt, G.out.2.2.below hBW (Nat.le_refl _)⟩)
    have hcl := stC_lt d hj N1
    obtain ⟨C, hC⟩ : ∃ C, C = stC d j := ⟨_, rfl⟩
    rw [← hC] at hcl ⊢
    clear hBW
    by_cases hlt : j < N
    · have hltI : decide ((j : Int) < (N : Int)) = true := by simp; omega
      rcases K.out.2 with hz | ⟨bl, off, ha, hc⟩
      · have := HZL.out; rw [hz] at this; simp at this; omega
      · subst ha
        have cj := hc j (by rw [HZL.out]; exact hlt)
        rw [HZG.out j hlt] at cj
        have e1 := K.out.1.cell (gcell_near (x := U) (f := F) (show j < 17 by omega))
        have e2 := K.out.1.cell (gcell_near (x := U) (f := F) (show C < 17 by omega))
        have h1 := HF.out j
        have h2 := HF.out C
        rw [← HD.out] at h1 h2
        have H1 := hidd h1
        have H2 := hidd h2
        obtain ⟨X, hX⟩ : ∃ X, X = F j := ⟨_, rfl⟩
        obtain ⟨Z, hZ⟩ : ∃ Z, Z = F C := ⟨_, rfl⟩
        rw [← hX] at e1 H1
        rw [← hZ] at e2 H2
        clear hc h1 h2 hX hZ
        cases hq : decide (d C < d j) with
        | true =>
          have hqI : decide (((d C : Nat) : Int) < ((d j : Nat) : Int)) = true := by simp at hq ⊢; omega
          have hst := stC_yes (d := d) (j := j) (by rw [← hC]; simp at hq; omega)
          have HST := hidd hst
          clear hst hC
          go_wp2_with fail
          go_quiet (first | (go_at_call 55; first | exact Calls.quiet_of ((H1.out _).mono fun _ _ h => ⟨h.1, 1, h.2⟩) | exact Calls.quiet_of ((H2.out _).mono fun _ _ h => ⟨h.1, 1, h.2⟩)))
          go_wp2_with fail
          go_roundw
          case rel => exact ⟨j + 1, by omega, by go_num, by rw [HST.out], m + nq, by rw [HM.out, World.drewN_drewN]⟩
          case measure => simp [intOf]; omega
        | false =>
          have hqI : decide (((d C : Nat) : Int) < ((d j : Nat) : Int)) = false := by simp at hq ⊢; omega
          have hst := stC_no (d := d) (j := j) (by rw [← hC]; simp at hq; omega)
          have HST := hidd (hst.trans hC.symm)
          clear hst hC
          go_wp2_with fail
          go_quiet (first | (go_at_call 55; first | exact Calls.quiet_of ((H1.out _).mono fun _ _ h => ⟨h.1, 1, h.2⟩) | exact Calls.quiet_of ((H2.out _).mono fun _ _ h => ⟨h.1, 1, h.2⟩)))
          go_wp2_with fail
          go_roundw
          case rel => exact ⟨j + 1, by omega, by go_num, by rw [HST.out], m + nq, by rw [HM.out, World.drewN_drewN]⟩
          case measure => simp [intOf]; omega
    · have hje : j = N := by omega
      have hltI : decide ((j : Int) < (N : Int)) = false := by simp; omega
      have e2 := K.out.1.cell (gcell_near (x := U) (f := F) (show C < 17 by omega))
      have h2 := HF.out C
      rw [← HD.out] at h2
      have H2 := hidd h2
      obtain ⟨Z, hZ⟩ : ∃ Z, Z = F C := ⟨_, rfl⟩
      rw [← hZ] at e2 H2
      have HCC := hidd (show C = stC d N by rw [hC, hje])
      clear h2 hZ hC hje
      go_wp2_with (go_at_call 55; refine (H2.out _).mono ?_; rintro e w' ⟨rfl, rfl⟩)
      go_ret2
      refine ⟨by rw [← HCC.out, ← HD.out]; rfl, ?_⟩
      have hb : Below w1.heap.size w1 wr := by rw [HM.out]; exact below_drewN (Below.refl _ _) _
      exact G.out.2.1.trans ((hb.drew).mono G.out.2.1.size)
/-- The model's best at j rounds. -/
def stB (d : Nat → Nat) (j : Nat) : Int := if j = 0 then -1 else (d (stC d j) : Nat)
theorem stB_zero (d : Nat → Nat) : stB d 0 = -1 := rfl
theorem stB_pos {d : Nat → Nat} {j : Nat} (h : j ≠ 0) : stB d j = (d (stC d j) : Nat) := if_neg h
theorem stB_yes {d : Nat → Nat} {j : Nat} (h : stB d j < (d j : Nat)) : stC d (j + 1) = j ∧ stB d (j + 1) = (d j : Nat) := by
  by_cases e : j = 0
  · subst e
    have : stC d 1 = 0 := by rw [stC, stC]; split <;> rfl
    exact ⟨this, by rw [stB_pos (by omega), this]⟩
  · rw [stB_pos e] at h
    have h1 := stC_yes (d := d) (j := j) (by omega)
    exact ⟨h1, by rw [stB_pos (by omega), h1]⟩
theorem stB_no {d : Nat → Nat} {j : Nat} (h : ¬ stB d j < (d j : Nat)) : stC d (j + 1) = stC d j ∧ stB d (j + 1) = stB d j := by
  by_cases e : j = 0
  · subst e
    rw [stB_zero] at h; omega
  · rw [stB_pos e] at h
    have h1 := stC_no (d := d) (j := j) (by omega)
    exact ⟨h1, by rw [stB_pos (by omega), stB_pos e, h1]⟩
def dgF (N : Nat) (bs : List Nat) (c : Int) (p : Nat) : Nat := ones (rwN bs c N p)
theorem dgF_17 {N : Nat} (hN : N ≤ 17) (bs : List Nat) (c : Int) (p : Nat) : dgF N bs c p ≤ 17 := ones_17 (Nat.lt_of_lt_of_le (arK_lt _ _) (Nat.pow_le_pow_right (by omega) hN))
set_option maxRecDepth 100000 in
set_option maxHeartbeats 1000000 in
theorem star62 (N : Nat) (k : Int) (bs : List Nat) (hb : Bys bs) (c : Int) (n1 : 1 ≤ N) (n2 : N ≤ 17) (w : World) :
    Calls Tryd.prog 62 #[.agg (ccells (N : Int) k bs).toArray, .int .i64 c] w fun e w' => e = .returned (.tuple #[.int .i64 (stC (dgF N bs c) N : Nat), .int .i64 (stB (dgF N bs c) N)]) ∧ Below w.heap.size w w' := by
  have HS := hidd (size_c26 (N : Int) k hb)
  have HC0 := hidd (show (ccells (N : Int) k bs).toArray[0]? = some (.int .i64 (N : Int)) from rfl)
  have HD17 := hidd (dgF_17 n2 bs c)
  obtain ⟨d, hd⟩ : ∃ d, d = dgF N bs c := ⟨_, rfl⟩
  have HD := hidd (fun p => (by rw [hd]; rfl : d p = ones (rwN bs c N p)))
  rw [← hd] at HD17 ⊢
  clear hd
  go_enter Tryd.func62, Tryd.ntmps62
  go_wp2_with fail
  go_loopw [6, 7, 8] (fun b at' i wr => ∃ j : Nat, j ≤ N ∧ i = .int .i64 (j : Int) ∧ b = .int .i64 (stB d j) ∧ at' = .int .i64 (stC d j : Nat) ∧ Rel63 (ccells (N : Int) k bs).toArray w wr) (fun _ _ i _ => N - (intOf i).toNat)
  case atStart => exact ⟨0, by omega, rfl, rfl, rfl, Blk.new _ _ _ _ rfl, (Below.refl _ _).alloc (Nat.le_refl _) _⟩
  case round =>
    obtain ⟨j, hj, rfl, rfl, rfl, HR⟩ := hrel
    have HK := hidd HR
    clear HR
    have c0 := HK.out.1.cell HC0.out
    by_cases hlt : j < N
    · have hltI : decide ((j : Int) < (N : Int)) = true := by simp; omega
      have HAR := hidd (fun W => around63 (N : Int) k bs hb (j : Int) c W (by omega) (by omega) (by omega) (by omega))
      obtain ⟨R, hR⟩ : ∃ R, R = rwN bs c N j := ⟨_, rfl⟩
      rw [Int.toNat_natCast, show arK (nbB bs (j : Int) c) N = R from hR.symm] at HAR
      have hR17 : R < 2 ^ 17 := by rw [hR]; exact Nat.lt_of_lt_of_le (arK_lt _ _) (Nat.pow_le_pow_right (by omega) n2)
      have HON := hidd (fun W => ones65 R W (by omega))
      have hdj : ones R = d j := by rw [hR, ← HD.out]
      rw [hdj] at HON
      obtain ⟨B, hB⟩ : ∃ B, B = stB d j := ⟨_, rfl⟩
      obtain ⟨C, hC⟩ : ∃ C, C = stC d j := ⟨_, rfl⟩
      obtain ⟨D, hDj⟩ : ∃ D, D = d j := ⟨_, rfl⟩
      rw [← hDj] at HON
      rw [← hB, ← hC]
      cases hq : decide (B < (D : Int)) with
      | true =>
        have HST := hidd (stB_yes (d := d) (j := j) (by rw [← hB, ← hDj]; exact of_decide_eq_true hq))
        have HDD := hidd hDj
        clear hR hdj hB hC hDj hR17
        go_wp2_with (refine wpList_load_row rfl 28 (.tmp 2) rfl w.heap.size rfl 28 _ (0,0) _ HK.out.1 Tryd.underlying28 rfl HS.out ?_)
        refine (HAR.out _).mono ?_
        rintro e w1 ⟨rfl, hb1⟩
        have K2 := hidd (show Rel63 (ccells (N : Int) k bs).toArray w w1 from ⟨HK.out.1.below hb1 HK.out.1.lt, HK.out.2.trans (hb1.mono HK.out.2.size)⟩)
        clear hb1 c0
        go_wp2_with (go_at_call 82; refine (HON.out _).mono ?_; rintro e w' ⟨rfl, rfl⟩)
        go_roundw
        case rel => exact ⟨j + 1, by omega, by go_num, by rw [HST.out.2, HDD.out], by rw [HST.out.1], K2.out⟩
        case measure => simp [intOf]; omega
      | false =>
        have HST := hidd (stB_no (d := d) (j := j) (by rw [← hB, ← hDj]; exact of_decide_eq_false hq))
        have HBC := hidd (And.intro hB hC)
        clear hR hdj hB hC hDj hR17
        go_wp2_with (refine wpList_load_row rfl 28 (.tmp 2) rfl w.heap.size rfl 28 _ (0,0) _ HK.out.1 Tryd.underlying28 rfl HS.out ?_)
        refine (HAR.out _).mono ?_
        rintro e w1 ⟨rfl, hb1⟩
        have K2 := hidd (show Rel63 (ccells (N : Int) k bs).toArray w w1 from ⟨HK.out.1.below hb1 HK.out.1.lt, HK.out.2.trans (hb1.mono HK.out.2.size)⟩)
        clear hb1 c0
        go_wp2_with (go_at_call 82; refine (HON.out _).mono ?_; rintro e w' ⟨rfl, rfl⟩)
        go_roundw
        case rel => exact ⟨j + 1, by omega, by go_num, by rw [HST.out.2, HBC.out.1], by rw [HST.out.1, HBC.out.2], K2.out⟩
        case measure => simp [intOf]; omega
    · have hje : j = N := by omega
      have hltI : decide ((j : Int) < (N : Int)) = false := by simp; omega
      obtain ⟨B, hB⟩ : ∃ B, B = stB d j := ⟨_, rfl⟩
      obtain ⟨C, hC⟩ : ∃ C, C = stC d j := ⟨_, rfl⟩
      rw [← hB, ← hC]
      have HBC := hidd (show B = stB d N ∧ C = stC d N by rw [hB, hC, hje]; exact ⟨rfl, rfl⟩)
      clear hje hB hC
      go_wp2_with fail
      go_ret2
      exact ⟨by rw [HBC.out.1, HBC.out.2]; rfl, HK.out.2⟩
/-- The star's point and degree. -/
def saC (n k : Int) (bs : List Nat) (c : Int) : Int := if given n k bs c [] = 0 then (stC (dgF n.toNat bs c) n.toNat : Nat) else 0
def saD (n k : Int) (bs : List Nat) (c : Int) : Int := if given n k bs c [] = 0 then (dgF n.toNat bs c (stC (dgF n.toNat bs c) n.toNat) : Nat) else 0
set_option maxRecDepth 100000 in
set_option maxHeartbeats 1000000 in
theorem spec29 (n k : Int) (bs : List Nat) (hb : Bys bs) (c : Int) (w : World) :
    Calls Tryd.prog 29 #[.agg (ccells n k bs).toArray, .int .i64 c] w fun e w' => e = .returned (.tuple #[.int .i64 (saC n k bs c), .int .i64 (saD n k bs c), .int .i64 (given n k bs c [])]) ∧ Below w.heap.size w w' := by
  have HS := hidd (size_c26 n k hb)
  have HG := hidd (fun W => given56 n k bs hb c [] none 0 W (sl_none W) (by simp))
  by_cases h0 : given n k bs c [] = 0
  · obtain ⟨n1, n2, k1, k2⟩ := isCol_bd (given_ok h0).1
    have e1 : saC n k bs c = (stC (dgF n.toNat bs c) n.toNat : Nat) := if_pos h0
    have e2 : saD n k bs c = (dgF n.toNat bs c (stC (dgF n.toNat bs c) n.toNat) : Nat) := if_pos h0
    rw [e1, e2, h0]
    rw [h0] at HG
    obtain ⟨N, rfl⟩ := Int.eq_ofNat_of_zero_le (show 0 ≤ n by omega)
    rw [Int.toNat_natCast]
    have hq := fun W => star62 N k bs hb c (by omega) (by omega) W
    rw [stB_pos (show N ≠ 0 by omega)] at hq
    have HQ := hidd hq
    generalize stC (dgF N bs c) N = C at HQ
    generalize dgF N bs c C = D at HQ
    clear h0 e1 e2 hq
    go_enter Tryd.func29, Tryd.ntmps29
    go_wp2_with (refine wpList_load_row rfl 28 (.tmp 2) rfl w.heap.size rfl 28 _ (0,0) _ (Blk.new _ _ _ _ rfl) Tryd.underlying28 rfl HS.out ?_)
    refine (HG.out _).mono ?_
    rintro e w1 ⟨rfl, hb1⟩
    have hB := (Blk.new w (ccells (N : Int) k bs).toArray 28 _ rfl).below hb1 (by simp)
    have G := hidd (And.intro (((Below.refl w.heap.size w).alloc (Nat.le_refl _) (.cells (ccells (N : Int) k bs).toArray 28)).trans (hb1.mono (by simp))) hB)
    clear hb1 hB
    go_wp2_with (refine wpList_load_row rfl 28 (.tmp 2) rfl w.heap.size rfl 28 _ (0,0) _ G.out.2 Tryd.underlying28 rfl HS.out ?_)
    refine (HQ.out _).mono ?_
    rintro e w2 ⟨rfl, hb2⟩
    have G2 := hidd (G.out.1.trans (hb2.mono G.out.1.size))
    clear hb2
    go_wp2_with fail
    go_ret3
    exact ⟨rfl, G2.out⟩
  · have e1 : saC n k bs c = 0 := if_neg h0
    have e2 : saD n k bs c = 0 := if_neg h0
    rw [e1, e2]
    obtain ⟨cd, hcd⟩ : ∃ cd, cd = given n k bs c [] := ⟨_, rfl⟩
    rw [← hcd] at HG h0 ⊢
    have hne : (cd != 0) = true := by rw [bne_iff_ne]; exact h0
    clear h0 e1 e2 hcd
    go_enter Tryd.func29, Tryd.ntmps29
    go_wp2_with (refine wpList_load_row rfl 28 (.tmp 2) rfl w.heap.size rfl 28 _ (0,0) _ (Blk.new _ _ _ _ rfl) Tryd.underlying28 rfl HS.out ?_)
    refine (HG.out _).mono ?_
    rintro e w1 ⟨rfl, hb1⟩
    have G := hidd (((Below.refl w.heap.size w).alloc (Nat.le_refl _) (.cells (ccells n k bs).toArray 28)).trans (hb1.mono (by simp)))
    clear hb1
    go_wp2_with fail
    go_ret3
    exact ⟨rfl, G.out⟩
set_option maxRecDepth 100000 in
set_option maxHeartbeats 1000000 in
theorem impl30 (n k : Int) (bs : List Nat) (hb : Bys bs) (c : Int) (w : World) (hT : Tz w) (hw0 : 0 < w.heap.size) :
    Calls Tryd.prog 30 #[.agg (ccells n k bs).toArray, .int .i64 c] w fun e w' => e = .returned (.tuple #[.int .i64 (saC n k bs c), .int .i64 (saD n k bs c), .int .i64 (given n k bs c [])]) ∧ Below w.heap.size w w' := by
  have HS := hidd (size_c26 n k hb)
  have HG := hidd (fun W => graph63 n k c bs hb W)
  have HT := hidd hT
  have HZ1 := hidd (size79 (grA n k bs c) (grF n k bs c))
  have HO1 := hidd (show (gcell 0 fun _ => 0).toArray.size = (gcell (grA n k bs c) (grF n k bs c)).toArray.size by simp [gcell_len])
  have HA1 := hidd (gcell_one (grA n k bs c) (grF n k bs c))
  have Hz := zero79
  clear hT
  by_cases h0 : given n k bs c [] = 0
  · obtain ⟨n1, n2, k1, k2⟩ := isCol_bd (given_ok h0).1
    have e1 : saC n k bs c = (stC (dgF n.toNat bs c) n.toNat : Nat) := if_pos h0
    have e2 : saD n k bs c = (dgF n.toNat bs c (stC (dgF n.toNat bs c) n.toNat) : Nat) := if_pos h0
    have e3 : grA n k bs c = 2 ^ n.toNat - 1 := if_pos h0
    have e4 : grF n k bs c = nsF bs c (eseq n.toNat) := if_pos h0
    rw [e1, e2, h0]
    rw [h0] at HG
    rw [e3, e4] at HG HZ1 HO1 HA1
    obtain ⟨N, rfl⟩ := Int.eq_ofNat_of_zero_le (show 0 ≤ n by omega)
    rw [Int.toNat_natCast] at HG HZ1 HO1 HA1 ⊢
    have hq := fun W hW h0 => star64 N (nsF bs c (eseq N)) W (by omega) (by omega) (nsF_lt bs c (eseq N)) hW h0
    have hst : stC (fun p => ones (nsF bs c (eseq N) p)) N = stC (dgF N bs c) N := stC_congr (fun p hp => by rw [nsF_rw bs c hp (by omega)]; rfl) (by omega) N (Nat.le_refl _)
    have hC := stC_lt (dgF N bs c) (Nat.le_refl N) (by omega)
    rw [hst, nsF_rw bs c hC (by omega)] at hq
    have hde : ones (rwN bs c N (stC (dgF N bs c) N)) = dgF N bs c (stC (dgF N bs c) N) := rfl
    rw [hde] at hq
    have HQ := hidd hq
    clear h0 e1 e2 e3 e4 hq hst hC hde
    generalize stC (dgF N bs c) N = C at HQ
    generalize dgF N bs c C = D at HQ
    generalize nsF bs c (eseq N) = F at HQ HG HZ1 HO1 HA1
    generalize 2 ^ N - 1 = U at HQ HG HZ1 HO1 HA1
    go_enter Tryd.func30, Tryd.ntmps30
    go_wp2_with (refine wpList_load_row rfl 28 (.tmp 2) rfl w.heap.size rfl 28 _ (0,0) _ (Blk.new _ _ _ _ rfl) Tryd.underlying28 rfl HS.out ?_)
    refine (HG.out _).mono ?_
    rintro e w1 ⟨rfl, hb1⟩
    have G := hidd (((Below.refl w.heap.size w).alloc (Nat.le_refl _) (.cells (ccells (N : Int) k bs).toArray 28)).trans (hb1.mono (by simp)))
    have GB := hidd (show Blk ((w1.alloc (.cells (gcell 0 fun _ => 0).toArray 79)).setRow w1.heap.size (gcell U F).toArray) w1.heap.size (gcell U F).toArray 79 ∧ Below w.heap.size w ((w1.alloc (.cells (gcell 0 fun _ => 0).toArray 79)).setRow w1.heap.size (gcell U F).toArray) from
      ⟨(Blk.new _ _ _ _ rfl).rowSame _, below_setRow (G.out.alloc G.out.size _) G.out.size _⟩)
    clear hb1
    go_wp2_with (first
      | (refine wpList_store_row rfl 79 (.tmp 7) (.tmp 15) rfl w1.heap.size _ rfl rfl 79 _ (Blk.new _ _ _ _ rfl) HZ1.out HO1.out HA1.out ?_)
      | (refine wpList_load_row rfl 79 (.tmp 7) rfl w1.heap.size rfl 79 _ (0,0) _ GB.out.1 Tryd.underlying79 rfl HZ1.out ?_))
    refine (HQ.out _ (HT.out.below GB.out.2 hw0) (by have := GB.out.2.size; omega)).mono ?_
    rintro e w2 ⟨rfl, hb2⟩
    have G2 := hidd (GB.out.2.trans (hb2.mono GB.out.2.size))
    clear hb2
    go_wp2_with fail
    go_ret3
    exact ⟨rfl, G2.out⟩
  · have e1 : saC n k bs c = 0 := if_neg h0
    have e2 : saD n k bs c = 0 := if_neg h0
    rw [e1, e2]
    obtain ⟨cd, hcd⟩ : ∃ cd, cd = given n k bs c [] := ⟨_, rfl⟩
    rw [← hcd] at HG h0 ⊢
    have hne : (cd != 0) = true := by rw [bne_iff_ne]; exact h0
    clear h0 e1 e2 hcd
    generalize grF n k bs c = F at HG HZ1 HO1 HA1
    generalize grA n k bs c = U at HG HZ1 HO1 HA1
    go_enter Tryd.func30, Tryd.ntmps30
    go_wp2_with (refine wpList_load_row rfl 28 (.tmp 2) rfl w.heap.size rfl 28 _ (0,0) _ (Blk.new _ _ _ _ rfl) Tryd.underlying28 rfl HS.out ?_)
    refine (HG.out _).mono ?_
    rintro e w1 ⟨rfl, hb1⟩
    have G := hidd (((Below.refl w.heap.size w).alloc (Nat.le_refl _) (.cells (ccells n k bs).toArray 28)).trans (hb1.mono (by simp)))
    clear hb1
    go_wp2_with (refine wpList_store_row rfl 79 (.tmp 7) (.tmp 15) rfl w1.heap.size _ rfl rfl 79 _ (Blk.new _ _ _ _ rfl) HZ1.out HO1.out HA1.out ?_)
    go_ret3
    exact ⟨rfl, below_setRow (G.out.alloc G.out.size _) G.out.size _⟩
end Go.Proofs.YtkiocedhibeieaaDoor
