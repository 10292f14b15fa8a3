/- DigitalOf: the program and its model. -/
import Derived.Test.YtikcmgmgdbbcfaaCirc
import Derived.Test.YtikcmgmgdbbcfaaGc
namespace Go.Proofs.Ytikcmgmgdbbcfaa
set_option linter.unusedVariables false
set_option linter.unusedSimpArgs false
open Go Go.RowKit Go.Shelf
def dgOk (d k : Int) (zs : List Int) : Prop := inB d 1 4 = true ∧ inB k 1 4 = true ∧ (zs.length : Int) = ((2 ^ d.toNat - 1 : Nat) : Int) ∧ allB zs k = true
instance (d k : Int) (zs : List Int) : Decidable (dgOk d k zs) := by unfold dgOk; infer_instance
def dgiCode (d k : Int) (zs : List Int) : Int := if dgOk d k zs then 0 else 2
def dgiN (d k : Int) (zs : List Int) : Int := if dgOk d k zs then ((2 ^ d.toNat : Nat) : Int) else 0
def dgiK (d k : Int) (zs : List Int) : Int := if dgOk d k zs then k else 0
def dgiB (d k : Int) (zs : List Int) : List Nat := if dgOk d k zs then paintB (2 ^ d.toNat) (fun lo hi => zs.getD ((lo ^^^ hi) - 1) 0) else zbl
/-- What DigitalOf returns. -/
def dgiOut (d k : Int) (zs : List Int) : Value := .tuple #[.agg (ccells (dgiN d k zs) (dgiK d k zs) (dgiB d k zs)).toArray, .int .i64 (dgiCode d k zs)]
theorem dgiOut_bad {d k : Int} {zs : List Int} (h : ¬ dgOk d k zs) : dgiOut d k zs = .tuple #[.agg (ccells 0 0 zbl).toArray, .int .i64 2] := by simp [dgiOut, dgiN, dgiK, dgiB, dgiCode, h]
theorem dgiOut_good {d k : Int} {zs : List Int} (h : dgOk d k zs) : dgiOut d k zs = .tuple #[.agg (ccells ((2 ^ d.toNat : Nat) : Int) k (paintB (2 ^ d.toNat) (fun lo hi => zs.getD ((lo ^^^ hi) - 1) 0))).toArray, .int .i64 0] := by simp [dgiOut, dgiN, dgiK, dgiB, dgiCode, h]
theorem pow_bd {D : Nat} (h1 : 1 ≤ D) (h2 : D ≤ 4) : 2 ≤ 2 ^ D ∧ 2 ^ D ≤ 16 := by
  have : D = 1 ∨ D = 2 ∨ D = 3 ∨ D = 4 := by omega
  rcases this with rfl | rfl | rfl | rfl <;> decide
theorem pow_sh {D : Nat} (h1 : 1 ≤ D) (h2 : D ≤ 4) : wrap64 ((2 : Int) ^ D) = ((2 ^ D : Nat) : Int) := by
  have := pow_bd h1 h2
  rw [show (2 : Int) ^ D = ((2 ^ D : Nat) : Int) by simp]
  exact IntWalk.wrap64_in _ ⟨by omega, by omega⟩
theorem xor_len {D lo hi : Nat} (h1 : lo < hi) (h2 : hi < 2 ^ D) (h3 : D ≤ 4) : (lo ^^^ hi) - 1 < 2 ^ D - 1 := by
  have h4 : lo ^^^ hi < 2 ^ D := Nat.xor_lt_two_pow (by omega) h2
  have h5 : hi < 16 := Nat.lt_of_lt_of_le h2 (Nat.pow_le_pow_right (by omega) h3)
  have := xor_bd h1 h5
  omega
theorem dgiB_bys (d k : Int) (zs : List Int) : Bys (dgiB d k zs) := by
  unfold dgiB
  split
  · rename_i h
    exact paintB_bys fun lo hi => all_rng h.2.2.2 (inB_bd h.2.1).2 _
  · exact zbl_bys
theorem dig_lst (N : Nat) (zs : List Int) (hN : N ≤ 16) : paintB N (fun lo hi => (lst15 zs).getD ((lo ^^^ hi) - 1) 0) = paintB N (fun lo hi => zs.getD ((lo ^^^ hi) - 1) 0) :=
  paint_congr fun lo hi h1 h2 => lst15_get zs (by have := xor_bd h1 (show hi < 16 by omega); omega)
set_option maxRecDepth 100000 in
set_option maxHeartbeats 2000000 in
theorem spec19d (d k : Int) (zs : List Int) (a : Option Addr) (cap : Nat) (w : World) (hs : SlI w a zs) (hl : zs.length ≤ 9223372036854775807) :
    Calls Try.prog 19 #[.int .i64 d, .int .i64 k, .slice a zs.length cap] w fun e w' => e = .returned (dgiOut d k zs) ∧ Below w.heap.size w w' := by
  have Hz := zero26
  have HZS := hidd size_z26
  have HZ1 := hidd (ccells_one 0 0 zbl)
  have HSL := hidd hs
  have hb0 : Below w.heap.size w (w.alloc (.cells (ccells 0 0 zbl).toArray 25)) := (Below.refl _ _).alloc (Nat.le_refl _) _
  have hB0 := Blk.new w (ccells 0 0 zbl).toArray 25 _ rfl
  have G := hidd (And.intro (hB0.rowSame (ccells 0 0 zbl).toArray) (below_setRow hb0 (Nat.le_refl _) (ccells 0 0 zbl).toArray))
  have HB0 := hidd (And.intro hB0 hb0)
  clear hs hB0 hb0
  cases c1 : inB d 1 4 with
  | false =>
    have H1 := hidd c1
    have H := hidd (dgiOut_bad (d := d) (k := k) (zs := zs) (fun h => by have h1 := h.1; rw [c1] at h1; cases h1))
    clear c1
    go_enter Try.func19, Try.ntmps19
    go_wp2_with (first
      | (go_at_call 42; refine (in49 _ _ _ _).mono ?_; rintro e w' ⟨rfl, rfl⟩; rw [H1.out])
      | (refine wpList_zero26 rfl rfl ?_)
      | (refine wpList_store_row rfl 25 (.tmp 6) (.tmp 31) rfl w.heap.size _ rfl rfl 25 _ HB0.out.1 HZS.out rfl HZ1.out ?_))
    exact ret_col rfl zbl_bys rfl G.out.1 rfl rfl ⟨by rw [H.out]; rfl, G.out.2⟩
  | true =>
    have H1 := hidd c1
    obtain ⟨n1, n2⟩ := inB_bd c1
    cases c2 : inB k 1 4 with
    | false =>
      have H2 := hidd c2
      have H := hidd (dgiOut_bad (d := d) (k := k) (zs := zs) (fun h => by have h1 := h.2.1; rw [c2] at h1; cases h1))
      clear c1 c2
      go_enter Try.func19, Try.ntmps19
      go_wp2_with (first
        | (go_at_call 42; refine (in49 _ _ _ _).mono ?_; rintro e w' ⟨rfl, rfl⟩; first | rw [H1.out] | rw [H2.out])
        | (refine wpList_zero26 rfl rfl ?_)
        | (refine wpList_store_row rfl 25 (.tmp 6) (.tmp 31) rfl w.heap.size _ rfl rfl 25 _ HB0.out.1 HZS.out rfl HZ1.out ?_))
      exact ret_col rfl zbl_bys rfl G.out.1 rfl rfl ⟨by rw [H.out]; rfl, G.out.2⟩
    | true =>
      have H2 := hidd c2
      obtain ⟨k1, k2⟩ := inB_bd c2
      obtain ⟨D, rfl⟩ := Int.eq_ofNat_of_zero_le (show 0 ≤ d by omega)
      obtain ⟨N2, N16⟩ := pow_bd (D := D) (by omega) (by omega)
      have hsh := pow_sh (D := D) (by omega) (by omega)
      have HXL := hidd (fun (lo hi : Nat) h1 h2 => xor_len (D := D) (lo := lo) (hi := hi) h1 h2 (by omega))
      have HDN := hidd (show (D : Int).toNat = D from rfl)
      obtain ⟨N, hN⟩ : ∃ N, N = 2 ^ D := ⟨_, rfl⟩
      have HN := hidd hN
      rw [← hN] at N2 N16 hsh HXL
      clear hN
      by_cases c3 : zs.length = N - 1
      · have hq : ((zs.length : Int) != (N : Int) - 1) = false := by simp; omega
        cases c4 : allB zs k with
        | false =>
          have H4 := hidd c4
          have H := hidd (dgiOut_bad (d := (D : Int)) (k := k) (zs := zs) (fun h => by have h4 := h.2.2.2; rw [c4] at h4; cases h4))
          clear c1 c2 c3 c4
          go_enter Try.func19, Try.ntmps19
          go_wp2_with (first
            | (go_at_call 42; refine (in49 _ _ _ _).mono ?_; rintro e w' ⟨rfl, rfl⟩; first | rw [H1.out] | rw [H2.out])
            | (go_at_call 43; refine (all50 _ _ _ _ _ (HSL.out.below HB0.out.2 (Nat.le_refl _)) hl (by omega) (by omega)).mono ?_; rintro e w' ⟨rfl, rfl⟩; rw [H4.out])
            | (refine wpList_zero26 rfl rfl ?_)
            | (refine wpList_store_row rfl 25 (.tmp 6) (.tmp 31) rfl w.heap.size _ rfl rfl 25 _ HB0.out.1 HZS.out rfl HZ1.out ?_))
          exact ret_col rfl zbl_bys rfl G.out.1 rfl rfl ⟨by rw [H.out]; rfl, G.out.2⟩
        | true =>
          have H4 := hidd c4
          have HLN := hidd c3
          have H := hidd (dgiOut_good (d := (D : Int)) (k := k) (zs := zs) ⟨c1, c2, by rw [HDN.out, ← HN.out]; omega, c4⟩)
          rw [HDN.out, ← HN.out] at H
          obtain ⟨PB, hPB⟩ : ∃ PB, PB = paintB N (fun lo hi => zs.getD ((lo ^^^ hi) - 1) 0) := ⟨_, rfl⟩
          have HRG := hidd (all_rng c4 k2)
          have HPB := hidd (show Bys PB by rw [hPB]; exact paintB_bys fun lo hi => HRG.out _)
          have HC := hidd (fun W hW => sdig50 N k zs a cap W hW (by omega) (by omega) (fun lo hi h1 h2 => by rw [c3]; exact HXL.out lo hi h1 h2) (by omega) HRG.out)
          rw [← hPB] at H HC
          have HPS := hidd (size_c26 (N : Int) k HPB.out)
          have HPO := hidd (size_cc 0 0 (N : Int) k zbl_bys HPB.out)
          have HPA := hidd (ccells_one (N : Int) k PB)
          clear c1 c2 c3 c4 hPB
          go_enter Try.func19, Try.ntmps19
          go_wp2_with (first
            | (go_at_call 42; refine (in49 _ _ _ _).mono ?_; rintro e w' ⟨rfl, rfl⟩; first | rw [H1.out] | rw [H2.out])
            | (go_at_call 43; refine (all50 _ _ _ _ _ (HSL.out.below HB0.out.2 (Nat.le_refl _)) hl (by omega) (by omega)).mono ?_; rintro e w' ⟨rfl, rfl⟩; rw [H4.out]))
          refine (HC.out _ (HSL.out.below HB0.out.2 (Nat.le_refl _))).mono ?_
          rintro e w2 ⟨rfl, hb2⟩
          have b2 := HB0.out.2.trans (hb2.mono (by simp))
          have z2 := HB0.out.1.below hb2 (by simp)
          have R := hidd (And.intro z2 (And.intro (z2.rowSame (ccells (N : Int) k PB).toArray) (below_setRow b2 (g := w.heap.size) (Nat.le_refl _) (ccells (N : Int) k PB).toArray)))
          clear hb2 b2 z2
          go_wp2_with (refine wpList_store_row rfl 25 (.tmp 6) (.tmp 37) rfl w.heap.size _ rfl rfl 25 _ R.out.1 HPS.out HPO.out HPA.out ?_)
          exact ret_col rfl HPB.out rfl R.out.2.1 rfl rfl ⟨by rw [H.out]; rfl, R.out.2.2⟩
      · have hq : ((zs.length : Int) != (N : Int) - 1) = true := by rw [bne_iff_ne]; omega
        have H := hidd (dgiOut_bad (d := (D : Int)) (k := k) (zs := zs) (fun h => c3 (by have h3 := h.2.2.1; rw [HDN.out, ← HN.out] at h3; omega)))
        clear c1 c2 c3
        go_enter Try.func19, Try.ntmps19
        go_wp2_with (first
          | (go_at_call 42; refine (in49 _ _ _ _).mono ?_; rintro e w' ⟨rfl, rfl⟩; first | rw [H1.out] | rw [H2.out])
          | (refine wpList_zero26 rfl rfl ?_)
          | (refine wpList_store_row rfl 25 (.tmp 6) (.tmp 31) rfl w.heap.size _ rfl rfl 25 _ HB0.out.1 HZS.out rfl HZ1.out ?_))
        exact ret_col rfl zbl_bys rfl G.out.1 rfl rfl ⟨by rw [H.out]; rfl, G.out.2⟩
set_option maxRecDepth 100000 in
set_option maxHeartbeats 2000000 in
theorem impl20d (d k : Int) (zs : List Int) (a : Option Addr) (cap : Nat) (w : World) (hs : SlI w a zs) (hl : zs.length ≤ 9223372036854775807) :
    Calls Try.prog 20 #[.int .i64 d, .int .i64 k, .slice a zs.length cap] w fun e w' => e = .returned (dgiOut d k zs) ∧ Below w.heap.size w w' := by
  have Hz := zero26
  have HZS := hidd size_z26
  have HZ1 := hidd (ccells_one 0 0 zbl)
  have HSL := hidd hs
  have hb0 : Below w.heap.size w (w.alloc (.cells (ccells 0 0 zbl).toArray 25)) := (Below.refl _ _).alloc (Nat.le_refl _) _
  have hB0 := Blk.new w (ccells 0 0 zbl).toArray 25 _ rfl
  have G := hidd (And.intro (hB0.rowSame (ccells 0 0 zbl).toArray) (below_setRow hb0 (Nat.le_refl _) (ccells 0 0 zbl).toArray))
  have HB0 := hidd (And.intro hB0 hb0)
  clear hs hB0 hb0
  cases c1 : inB d 1 4 with
  | false =>
    have H1 := hidd c1
    have H := hidd (dgiOut_bad (d := d) (k := k) (zs := zs) (fun h => by have h1 := h.1; rw [c1] at h1; cases h1))
    clear c1
    go_enter Try.func20, Try.ntmps20
    go_wp2_with (first
      | (go_at_call 45; refine (within45 _ _ _ _).mono ?_; rintro e w' ⟨rfl, rfl⟩; rw [H1.out])
      | (refine wpList_zero26 rfl rfl ?_)
      | (refine wpList_store_row rfl 25 (.tmp 6) (.tmp 25) rfl w.heap.size _ rfl rfl 25 _ HB0.out.1 HZS.out rfl HZ1.out ?_))
    exact ret_col rfl zbl_bys rfl G.out.1 rfl rfl ⟨by rw [H.out]; rfl, G.out.2⟩
  | true =>
    have H1 := hidd c1
    obtain ⟨n1, n2⟩ := inB_bd c1
    cases c2 : inB k 1 4 with
    | false =>
      have H2 := hidd c2
      have H := hidd (dgiOut_bad (d := d) (k := k) (zs := zs) (fun h => by have h1 := h.2.1; rw [c2] at h1; cases h1))
      clear c1 c2
      go_enter Try.func20, Try.ntmps20
      go_wp2_with (first
        | (go_at_call 45; refine (within45 _ _ _ _).mono ?_; rintro e w' ⟨rfl, rfl⟩; first | rw [H1.out] | rw [H2.out])
        | (refine wpList_zero26 rfl rfl ?_)
        | (refine wpList_store_row rfl 25 (.tmp 6) (.tmp 25) rfl w.heap.size _ rfl rfl 25 _ HB0.out.1 HZS.out rfl HZ1.out ?_))
      exact ret_col rfl zbl_bys rfl G.out.1 rfl rfl ⟨by rw [H.out]; rfl, G.out.2⟩
    | true =>
      have H2 := hidd c2
      obtain ⟨k1, k2⟩ := inB_bd c2
      obtain ⟨D, rfl⟩ := Int.eq_ofNat_of_zero_le (show 0 ≤ d by omega)
      obtain ⟨N2, N16⟩ := pow_bd (D := D) (by omega) (by omega)
      have hsh := pow_sh (D := D) (by omega) (by omega)
      have HXL := hidd (fun (lo hi : Nat) h1 h2 => xor_len (D := D) (lo := lo) (hi := hi) h1 h2 (by omega))
      have HDN := hidd (show (D : Int).toNat = D from rfl)
      obtain ⟨N, hN⟩ : ∃ N, N = 2 ^ D := ⟨_, rfl⟩
      have HN := hidd hN
      rw [← hN] at N2 N16 hsh HXL
      clear hN
      cases c3 : isListB zs ((N : Int) - 1) k with
      | false =>
        have HI := hidd c3
        have H := hidd (dgiOut_bad (d := (D : Int)) (k := k) (zs := zs) (fun h => by unfold isListB at c3; have h3 := h.2.2.1; rw [HDN.out, ← HN.out] at h3; rw [h.2.2.2, decide_eq_true (by omega)] at c3; cases c3))
        clear c1 c2 c3
        go_enter Try.func20, Try.ntmps20
        go_wp2_with (first
          | (go_at_call 45; refine (within45 _ _ _ _).mono ?_; rintro e w' ⟨rfl, rfl⟩; first | rw [H1.out] | rw [H2.out])
          | (go_at_call 46; refine (isList46 zs a cap _ k _ (HSL.out.below HB0.out.2 (Nat.le_refl _)) hl).mono ?_; rintro e w' ⟨rfl, rfl⟩; rw [HI.out])
          | (refine wpList_zero26 rfl rfl ?_)
          | (refine wpList_store_row rfl 25 (.tmp 6) (.tmp 25) rfl w.heap.size _ rfl rfl 25 _ HB0.out.1 HZS.out rfl HZ1.out ?_))
        exact ret_col rfl zbl_bys rfl G.out.1 rfl rfl ⟨by rw [H.out]; rfl, G.out.2⟩
      | true =>
        have HI := hidd c3
        obtain ⟨c3a, c4⟩ : (zs.length : Int) = (N : Int) - 1 ∧ allB zs k = true := by unfold isListB at c3; rw [Bool.and_eq_true] at c3; exact ⟨of_decide_eq_true c3.1, c3.2⟩
        have H := hidd (dgiOut_good (d := (D : Int)) (k := k) (zs := zs) ⟨c1, c2, by rw [HDN.out, ← HN.out]; omega, c4⟩)
        rw [HDN.out, ← HN.out] at H
        obtain ⟨PB, hPB⟩ : ∃ PB, PB = paintB N (fun lo hi => zs.getD ((lo ^^^ hi) - 1) 0) := ⟨_, rfl⟩
        have HRG := hidd (all_rng c4 k2)
        have HPB := hidd (show Bys PB by rw [hPB]; exact paintB_bys fun lo hi => HRG.out _)
        have HC := hidd (fun W => dig51 (lst15 zs) N k W (lst15_len zs) (by omega) (by omega) (lst15_rng HRG.out))
        rw [dig_lst N zs (by omega), ← hPB] at HC
        rw [← hPB] at H
        have HL := hidd (fun W hW => list48 zs a cap W hW (by omega) (by omega))
        have HPS := hidd (size_c26 (N : Int) k HPB.out)
        have HPO := hidd (size_cc 0 0 (N : Int) k zbl_bys HPB.out)
        have HPA := hidd (ccells_one (N : Int) k PB)
        clear c1 c2 c3 c3a c4 hPB
        go_enter Try.func20, Try.ntmps20
        go_wp2_with (first
          | (go_at_call 45; refine (within45 _ _ _ _).mono ?_; rintro e w' ⟨rfl, rfl⟩; first | rw [H1.out] | rw [H2.out])
          | (go_at_call 46; refine (isList46 zs a cap _ k _ (HSL.out.below HB0.out.2 (Nat.le_refl _)) hl).mono ?_; rintro e w' ⟨rfl, rfl⟩; rw [HI.out])
          | fail)
        obtain ⟨W0, hW0⟩ : ∃ W0, W0 = w.alloc (.cells (ccells 0 0 zbl).toArray 25) := ⟨_, rfl⟩
        have HW := hidd (show Blk W0 w.heap.size (ccells 0 0 zbl).toArray 25 ∧ Below w.heap.size w W0 by rw [hW0]; exact HB0.out)
        rw [← hW0]
        clear hW0
        refine wp_region_tail_lit 5 (fun w' => Below W0.heap.size W0 w') (by decide) rfl ((Below.refl _ _).drew) (by kernel_rfl) (by kernel_rfl) (by kernel_rfl) (by kernel_rfl) ?_
        simp only [List.take_succ_cons, List.take_zero, List.drop_succ_cons, List.drop_zero, List.map_cons, List.map_nil, List.cons_append, List.nil_append, idle]
        refine qs rfl (fun KQ hKQ => ?_)
        apply Exists.intro
        refine ⟨fun w' hw' => ?_, ?_⟩
        · go_simp; exact rfl
        go_simp
        refine hKQ _ ?_
        clear hKQ KQ
        refine qs rfl (fun KQ hKQ => ?_)
        apply Exists.intro
        refine ⟨fun w' hw' => ?_, ?_⟩
        · go_simp; exact rfl
        go_simp
        refine hKQ _ ?_
        clear hKQ KQ
        refine qs rfl (fun KQ hKQ => ?_)
        apply Exists.intro
        refine ⟨fun w' hw' => ?_, ?_⟩
        · go_simp; exact rfl
        go_simp
        refine hKQ _ ?_
        clear hKQ KQ
        refine qs rfl (fun KQ hKQ => ?_)
        apply Exists.intro
        refine ⟨fun w' hw' => ?_, ?_⟩
        · go_simp; exact rfl
        go_simp
        refine hKQ _ ?_
        clear hKQ KQ
        refine qs rfl (fun KQ hKQ => ?_)
        apply Exists.intro
        refine ⟨fun w' hw' => ?_, ?_⟩
        · go_simp; exact (HL.out _ (HSL.out.below (HW.out.2.trans (hw'.mono HW.out.2.size)) (Nat.le_refl _))).mono fun _ _ h => ⟨h.1, hw'.trans (h.2.mono hw'.size)⟩
        go_simp
        refine hKQ _ ?_
        clear hKQ KQ
        refine qs rfl (fun KQ hKQ => ?_)
        apply Exists.intro
        refine ⟨fun w' hw' => ?_, ?_⟩
        · go_simp; exact rfl
        go_simp
        refine hKQ _ ?_
        clear hKQ KQ
        refine qs rfl (fun KQ hKQ => ?_)
        apply Exists.intro
        refine ⟨fun w' hw' => ?_, ?_⟩
        · go_simp; exact rfl
        go_simp
        refine hKQ _ ?_
        clear hKQ KQ
        refine qs rfl (fun KQ hKQ => ?_)
        apply Exists.intro
        refine ⟨fun w' hw' => ?_, ?_⟩
        · go_simp; exact rfl
        go_simp
        refine hKQ _ ?_
        clear hKQ KQ
        refine wpQuiet_nil ?_
        intro w1 hw1
        have G1 := hidd (And.intro (HW.out.1.below hw1 HW.out.1.lt) (HW.out.2.trans (hw1.mono HW.out.2.size)))
        clear hw1
        go_wp2_with fail
        rw [hsh]
        refine (HC.out _).mono ?_
        rintro e w2 ⟨rfl, hb2⟩
        have b2 := G1.out.2.trans (hb2.mono G1.out.2.size)
        have z2 := G1.out.1.below hb2 G1.out.1.lt
        have R := hidd (And.intro z2 (And.intro (z2.rowSame (ccells (N : Int) k PB).toArray) (below_setRow b2 (g := w.heap.size) (Nat.le_refl _) (ccells (N : Int) k PB).toArray)))
        clear hb2 b2 z2
        go_wp2_with (refine wpList_store_row rfl 25 (.tmp 6) (.tmp 31) rfl w.heap.size _ rfl rfl 25 _ R.out.1 HPS.out HPO.out HPA.out ?_)
        exact ret_col rfl HPB.out rfl R.out.2.1 rfl rfl ⟨by rw [H.out]; rfl, R.out.2.2⟩
end Go.Proofs.Ytikcmgmgdbbcfaa
