/- FreeChanges: the model. -/
import Derived.Test.YtckffliiidgilaaDoorFcq
import Derived.Test.YtckffliiidgilaaDoorBcg
namespace Go.Proofs.YtckffliiidgilaaDoor
set_option linter.unusedVariables false
set_option linter.unusedSimpArgs false
open Go Go.RowKit Go.Shelf
theorem LLW.empty {w : World} {B : Nat} (hB : B ≤ w.heap.size) : LLW (w.alloc (.cells #[] 25)) B (.slice (some ⟨w.heap.size, 0, none⟩) 0 0) [] :=
  ⟨fun _ => (none, 0), ⟨rfl, .inr ⟨w.heap.size, 0, #[], rfl, hB, Blk.new _ _ _ _ rfl, Nat.le_refl _, by simp [maxLen], rfl, rfl⟩⟩, fun j hj => by simp at hj, fun i j hi => by simp at hi⟩
theorem own_tr {w : World} {i j c : Nat} : OwnL (w.alloc (.cells #[.int .i64 (i : Int), .int .i64 (j : Int), .int .i64 (c : Int)] 2)) w.heap.size (some ⟨w.heap.size, 0, none⟩) (trL (i, j, c)) :=
  own_of_blk (zs := trL (i, j, c)) (Blk.new _ _ _ _ rfl) (Nat.le_refl _)
set_option maxRecDepth 100000 in
set_option maxHeartbeats 8000000 in
theorem spec38_good (N K : Nat) (bs : List Nat) (hb : Bys bs) (zs : List Int) (bl off cap : Nat) (w : World) (hs : SlI w (some ⟨bl, off, none⟩) zs) (hl : zs.length ≤ 1048576) (h0 : eaC 17 (N : Int) (K : Int) bs zs = 0) (hlK : zs.length = K) (n1 : 1 ≤ N) (n17 : N ≤ 17) (k1 : 1 ≤ K) (k4 : K ≤ 4) (hsp : szP zs K = true) :
    Calls Tryd.prog 38 #[.agg (ccells (N : Int) (K : Int) bs).toArray, .slice (some ⟨bl, off, none⟩) K cap] w fun e w' => LLOut0 w (fcA (N : Int) (K : Int) bs zs) 0 e w' := by
  have HS := hidd (size_c26 (N : Int) (K : Int) hb)
  have HB := hidd hb
  have HSL := hidd hs
  have HCO := hidd (fun W h => given67 (N : Int) (K : Int) bs hb zs (some ⟨bl, off, none⟩) cap W h hl)
  rw [h0, hlK] at HCO
  have hc : ∀ j, j < K → w.cell? ⟨bl, off + j, none⟩ = some (.int .i64 (zs.getD j 0)) := by
    rcases hs with h | ⟨b', o', ha, hc⟩
    · rw [h] at hlK; simp at hlK; omega
    · cases ha
      intro j hj
      exact hc j (by omega)
  have HC := hidd (fun W (h : Below w.heap.size w W) j (hj : j < K) => (show W.cell? ⟨bl, off + j, none⟩ = some (.int .i64 (zs.getD j 0)) from cell_below (hc j hj) h))
  have HSZ := hidd (fun c (hc : c < K) => inB_bd (szP_get hsp hc))
  have HC0 := hidd (show (ccells (N : Int) (K : Int) bs).toArray[0]? = some (.int .i64 (N : Int)) from rfl)
  have HC1 := hidd (show (ccells (N : Int) (K : Int) bs).toArray[1]? = some (.int .i64 (K : Int)) from rfl)
  have HG := hidd (And.intro (Blk.new w (ccells (N : Int) (K : Int) bs).toArray 28 _ rfl) ((Below.refl w.heap.size w).alloc (Nat.le_refl _) (.cells (ccells (N : Int) (K : Int) bs).toArray 28)))
  obtain ⟨WA, hWA⟩ : ∃ WA, WA = w.alloc (.cells (ccells (N : Int) (K : Int) bs).toArray 28) := ⟨_, rfl⟩
  rw [← hWA] at HG
  obtain ⟨flt, hflt⟩ : ∃ flt : List (Nat × Nat × Nat) → List (List Int), flt = fun xs => (xs.filter (frC bs N zs)).map trL := ⟨_, rfl⟩
  have hfl : fcA (N : Int) (K : Int) bs zs = flt (chL bs K N N) := by rw [hflt]; rfl
  have HFZ := hidd (show flt (chL bs K N 0) = [] by rw [hflt]; rfl)
  have HFS := hidd (fun (xs : List (Nat × Nat × Nat)) x (h : frC bs N zs x = false) => (show flt (xs ++ [x]) = flt xs by rw [hflt]; simp [h]))
  have HFA := hidd (fun (xs : List (Nat × Nat × Nat)) x (h : frC bs N zs x = true) => (show flt (xs ++ [x]) = flt xs ++ [trL x] by rw [hflt]; simp [h]))
  have HFL := hidd (fun (i h c : Nat) (hi : i < N) (hh : i + 1 + h < N) (hc : c < K) => (show (flt (chL bs K N i ++ chQ bs K i h ++ chR bs i (i + 1 + h) c)).length ≤ 1000 by
    obtain ⟨r1, h1⟩ := fm_more (α := Nat) (fun i => chQ bs K i (N - (i + 1))) (i + 1) (N - (i + 1))
    obtain ⟨r2, h2⟩ := fm_more (α := Nat) (fun d => chR bs i (i + 1 + d) K) (h + 1) (N - (i + 1) - (h + 1))
    obtain ⟨r3, h3⟩ := fm_more (α := Nat) (fun (c : Nat) => if (c : Int) = colAt bs (i : Int) ((i + 1 + h : Nat) : Int) then [] else [(i, i + 1 + h, c)]) c (K - c)
    rw [show i + 1 + (N - (i + 1)) = N by omega] at h1
    rw [show h + 1 + (N - (i + 1) - (h + 1)) = N - (i + 1) by omega] at h2
    rw [show c + (K - c) = K by omega] at h3
    have e1 : chL bs K N N = chL bs K N (i + 1) ++ r1 := h1
    have e2 : chQ bs K i (N - (i + 1)) = chQ bs K i (h + 1) ++ r2 := h2
    have e3 : chR bs i (i + 1 + h) K = chR bs i (i + 1 + h) c ++ r3 := h3
    rw [chQ_step, e3] at e2
    rw [chL_step, e2] at e1
    have h4 := chL_len (bs := bs) n17 k4
    rw [e1] at h4
    simp only [List.length_append] at h4
    rw [hflt, List.length_map]
    refine Nat.le_trans (List.length_filter_le _ _) ?_
    simp only [List.length_append]
    omega))
  rw [hfl, hlK.symm]
  rw [hlK]
  obtain ⟨t0, hi2, hz0, hz1, hz3⟩ := info_parts info25
  have HIF := hidd (And.intro hi2 (And.intro hz0 (And.intro hz1 hz3)))
  clear hs hl h0 hlK hsp hc hfl hflt hi2 hz0 hz1 hz3 hb
  go_enter Tryd.func38, Tryd.ntmps38
  go_upto_region 1 with fail
  rw [← hWA]
  clear hWA
  go_wp2_with (refine wpList_load_row rfl 28 (.tmp 2) rfl w.heap.size rfl 28 _ (0,0) _ HG.out.1 Tryd.underlying28 rfl HS.out ?_)
  refine (HCO.out _ (HSL.out.below HG.out.2 (Nat.le_refl _))).mono ?_
  rintro e W0 ⟨rfl, hb1⟩
  have G := hidd (And.intro (HG.out.1.below hb1 HG.out.1.lt) (HG.out.2.trans (hb1.mono HG.out.2.size)))
  clear hb1
  have HL0 := hidd (show LLW (W0.alloc (.cells #[] 25)) W0.heap.size (.slice (some ⟨W0.heap.size, 0, none⟩) 0 0) (flt (chL bs K N 0)) ∧ Below W0.heap.size W0 (W0.alloc (.cells #[] 25)) from
    ⟨by rw [HFZ.out]; exact LLW.empty (Nat.le_refl _), (Below.refl _ _).alloc (Nat.le_refl _) _⟩)
  have HBK := hidd (fun W (h : Below W0.heap.size W0 W) => (show Blk W w.heap.size (ccells (N : Int) (K : Int) bs).toArray 28 ∧ Below w.heap.size w W from ⟨G.out.1.below h G.out.1.lt, G.out.2.trans (h.mono G.out.2.size)⟩))
  go_wp2_with fail
  go_loopw [7, 8] (fun v e wr => ∃ (v0 : Value) (i : Nat), v0 = v ∧ i ≤ N ∧ e = .int .i64 (i : Int) ∧ Hid (LLW wr W0.heap.size v0 (flt (chL bs K N i)) ∧ Below W0.heap.size W0 wr)) (fun _ e _ => N - (intOf e).toNat)
  case atStart => exact ⟨_, 0, rfl, Nat.zero_le _, rfl, HL0.out⟩
  case round =>
    obtain ⟨v7, i, rfl, hi, rfl, HR⟩ := hrel
    have c0 := (HBK.out wr HR.out.2).1.cell HC0.out
    by_cases hlt : i < N
    · have hiI : (i : Int) ≤ 17 := by omega
      go_wp2_with fail
      go_loopw [7, 9] (fun v e wr => ∃ (v0 : Value) (h : Nat), v0 = v ∧ i + 1 + h ≤ N ∧ e = .int .i64 ((i + 1 + h : Nat) : Int) ∧ Hid (LLW wr W0.heap.size v0 (flt (chL bs K N i ++ chQ bs K i h)) ∧ Below W0.heap.size W0 wr)) (fun _ e _ => N - (intOf e).toNat)
      case atStart => exact ⟨_, 0, rfl, by omega, by go_num, by have h := HR.out; rw [show chQ bs K i 0 = [] from rfl, List.append_nil]; exact h⟩
      case round =>
        obtain ⟨v7b, h, rfl, hh, rfl, HR2⟩ := hrel
        have c0 := (HBK.out wr HR2.out.2).1.cell HC0.out
        have c1 := (HBK.out wr HR2.out.2).1.cell HC1.out
        obtain ⟨j, hj⟩ : ∃ j, j = i + 1 + h := ⟨_, rfl⟩
        rw [← hj] at hh ⊢
        have HJJ := hidd hj
        by_cases hlt2 : j < N
        · clear hj
          have hj17 : (j : Int) ≤ 17 := by omega
          go_wp2_with fail
          go_loopw [7, 10] (fun v e wr => ∃ (v0 : Value) (c : Nat), v0 = v ∧ c ≤ K ∧ e = .int .i64 (c : Int) ∧ Hid (LLW wr W0.heap.size v0 (flt (chL bs K N i ++ chQ bs K i h ++ chR bs i j c)) ∧ Below W0.heap.size W0 wr)) (fun _ e _ => K - (intOf e).toNat)
          case atStart => exact ⟨_, 0, rfl, Nat.zero_le _, rfl, by have h := HR2.out; rw [show chR bs i j 0 = [] from rfl, List.append_nil]; exact h⟩
          case round =>
            obtain ⟨v7c, c, rfl, hc, rfl, HR3⟩ := hrel
            have c1 := (HBK.out wr HR3.out.2).1.cell HC1.out
            by_cases hlt3 : c < K
            · have hlt3I : decide ((c : Int) < (K : Int)) = true := by simp; omega
              have hij : i < j := by have := HJJ.out; omega
              have HBW := hidd (HBK.out wr HR3.out.2).1
              have HAT := hidd (fun W => at57 (N : Int) (K : Int) bs HB.out (N : Int) (i : Int) (j : Int) W (by omega) (by omega) (by omega) (by omega) (by omega) (by omega))
              have hcz := HC.out wr (HBK.out wr HR3.out.2).2 c hlt3
              have hz := HSZ.out c hlt3
              obtain ⟨z, hze⟩ : ∃ z, z = zs.getD c 0 := ⟨_, rfl⟩
              rw [← hze] at hcz hz
              have HCZ := hidd (fun W (h : Below wr.heap.size wr W) => cell_below hcz h)
              have HZE := hidd hze
              have hcl : (c : Int) < (K : Int) := by omega
              obtain ⟨col, hcol⟩ : ∃ col, col = colAt bs (i : Int) (j : Int) := ⟨_, rfl⟩
              rw [← hcol] at HAT
              have HCOL := hidd hcol
              clear hcz hze hcol
              cases hq : ((c : Int) == col) with
              | true =>
                have HE := hidd (show chR bs i j (c + 1) = chR bs i j c from by rw [chR_step, if_pos (by rw [← HCOL.out]; exact beq_iff_eq.1 hq), List.append_nil])
                clear hz
                go_wp2_with fail
                refine wp_region_quiet_at (fun w' => Below wr.heap.size wr w') rfl (by kernel_rfl) ((Below.refl _ _).drew) ?_
                refine qs rfl (fun KQ hKQ => ?_)
                apply Exists.intro
                refine ⟨fun w' hw' => ?_, ?_⟩
                · go_simp; exact rfl
                go_simp
                refine hKQ _ ?_
                clear hKQ KQ
                refine qs rfl (fun KQ hKQ => ?_)
                apply Exists.intro
                refine ⟨fun w' hw' => ?_, ?_⟩
                · exact quietRow 28 (.tmp 2) rfl w.heap.size rfl 28 _ _ (HBW.out.below hw' HBW.out.lt) Tryd.underlying28 rfl HS.out
                go_simp
                refine hKQ _ ?_
                clear hKQ KQ
                refine qs rfl (fun KQ hKQ => ?_)
                apply Exists.intro
                refine ⟨fun w' hw' => ?_, ?_⟩
                · go_simp; exact rfl
                go_simp
                refine hKQ _ ?_
                clear hKQ KQ
                refine qs rfl (fun KQ hKQ => ?_)
                apply Exists.intro
                refine ⟨fun w' hw' => ?_, ?_⟩
                · go_simp; exact rfl
                go_simp
                refine hKQ _ ?_
                clear hKQ KQ
                refine qs rfl (fun KQ hKQ => ?_)
                apply Exists.intro
                refine ⟨fun w' hw' => ?_, ?_⟩
                · go_simp; exact (HAT.out _).mono fun _ _ h => ⟨h.1, hw'.trans (h.2.mono hw'.size)⟩
                go_simp
                refine hKQ _ ?_
                clear hKQ KQ
                refine qs rfl (fun KQ hKQ => ?_)
                apply Exists.intro
                refine ⟨fun w' hw' => ?_, ?_⟩
                · go_simp; exact rfl
                go_simp
                refine hKQ _ ?_
                clear hKQ KQ
                refine qs rfl (fun KQ hKQ => ?_)
                apply Exists.intro
                refine ⟨fun w' hw' => ?_, ?_⟩
                · go_simp; exact rfl
                go_simp
                refine hKQ _ ?_
                clear hKQ KQ
                go_big_quiet_skip
                go_big_quiet_skip
                go_big_quiet_skip
                go_big_quiet_skip
                go_big_quiet_skip
                go_big_quiet_skip
                go_big_quiet_skip
                go_big_quiet_skip
                go_big_quiet_skip
                go_big_quiet_skip
                go_big_quiet_skip
                go_big_quiet_skip
                refine qs rfl (fun KQ hKQ => ?_)
                apply Exists.intro
                refine ⟨fun w' hw' => ?_, ?_⟩
                · go_simp; exact rfl
                go_simp
                refine hKQ _ ?_
                clear hKQ KQ
                refine qs rfl (fun KQ hKQ => ?_)
                apply Exists.intro
                refine ⟨fun w' hw' => ?_, ?_⟩
                · go_simp; exact rfl
                go_simp
                refine hKQ _ ?_
                clear hKQ KQ
                go_big_quiet_skip
                go_big_quiet_skip
                go_big_quiet_skip
                go_big_quiet_skip
                go_big_quiet_skip
                go_big_quiet_skip
                go_big_quiet_skip
                go_big_quiet_skip
                go_big_quiet_skip
                go_big_quiet_skip
                go_big_quiet_skip
                go_big_quiet_skip
                go_big_quiet_skip
                go_big_quiet_skip
                go_big_quiet_skip
                go_big_quiet_skip
                go_big_quiet_skip
                refine qs rfl (fun KQ hKQ => ?_)
                apply Exists.intro
                refine ⟨fun w' hw' => ?_, ?_⟩
                · go_simp; exact rfl
                go_simp
                refine hKQ _ ?_
                clear hKQ KQ
                refine wpQuiet_nil ?_
                intro w' hw'
                have HW := hidd (show LLW w' W0.heap.size v7c (flt (chL bs K N i ++ chQ bs K i h ++ chR bs i j (c + 1))) ∧ Below W0.heap.size W0 w' from by
                  rw [HE.out]
                  exact ⟨HR3.out.1.below hw' (Nat.le_refl _), HR3.out.2.trans (hw'.mono HR3.out.2.size)⟩)
                clear hw'
                go_wp2_with fail
                go_roundw
                case rel => exact ⟨_, c + 1, rfl, by omega, by go_num, HW.out⟩
                case measure => simp [intOf]; omega
              | false =>
                have hce : (c : Int) ≠ colAt bs (i : Int) (j : Int) := by rw [← HCOL.out]; simpa using hq
                have HER := hidd (show chR bs i j (c + 1) = chR bs i j c ++ [(i, j, c)] from by rw [chR_step, if_neg hce])
                clear hce
                by_cases hz3 : z < 3
                · have hz3d : decide (z < 3) = true := decide_eq_true hz3
                  have hz0d : decide (z > 0) = true := decide_eq_true (by omega)
                  have hz0e : decide (0 < z) = true := hz0d
                  have HE := hidd (show flt (chL bs K N i ++ chQ bs K i h ++ chR bs i j (c + 1)) = flt (chL bs K N i ++ chQ bs K i h ++ chR bs i j c) from by
                    rw [HER.out, ← List.append_assoc]
                    exact HFS.out _ _ (by unfold frC; dsimp only; rw [← HZE.out, hz3d]; rfl))
                  clear hz hz3
                  go_wp2_with fail
                  refine wp_region_quiet_at (fun w' => Below wr.heap.size wr w') rfl (by kernel_rfl) ((Below.refl _ _).drew) ?_
                  refine qs rfl (fun KQ hKQ => ?_)
                  apply Exists.intro
                  refine ⟨fun w' hw' => ?_, ?_⟩
                  · go_simp; exact rfl
                  go_simp
                  refine hKQ _ ?_
                  clear hKQ KQ
                  refine qs rfl (fun KQ hKQ => ?_)
                  apply Exists.intro
                  refine ⟨fun w' hw' => ?_, ?_⟩
                  · exact quietRow 28 (.tmp 2) rfl w.heap.size rfl 28 _ _ (HBW.out.below hw' HBW.out.lt) Tryd.underlying28 rfl HS.out
                  go_simp
                  refine hKQ _ ?_
                  clear hKQ KQ
                  refine qs rfl (fun KQ hKQ => ?_)
                  apply Exists.intro
                  refine ⟨fun w' hw' => ?_, ?_⟩
                  · go_simp; exact rfl
                  go_simp
                  refine hKQ _ ?_
                  clear hKQ KQ
                  refine qs rfl (fun KQ hKQ => ?_)
                  apply Exists.intro
                  refine ⟨fun w' hw' => ?_, ?_⟩
                  · go_simp; exact rfl
                  go_simp
                  refine hKQ _ ?_
                  clear hKQ KQ
                  refine qs rfl (fun KQ hKQ => ?_)
                  apply Exists.intro
                  refine ⟨fun w' hw' => ?_, ?_⟩
                  · go_simp; exact (HAT.out _).mono fun _ _ h => ⟨h.1, hw'.trans (h.2.mono hw'.size)⟩
                  go_simp
                  refine hKQ _ ?_
                  clear hKQ KQ
                  refine qs rfl (fun KQ hKQ => ?_)
                  apply Exists.intro
                  refine ⟨fun w' hw' => ?_, ?_⟩
                  · go_simp; exact rfl
                  go_simp
                  refine hKQ _ ?_
                  clear hKQ KQ
                  refine qs rfl (fun KQ hKQ => ?_)
                  apply Exists.intro
                  refine ⟨fun w' hw' => ?_, ?_⟩
                  · go_simp; exact rfl
                  go_simp
                  refine hKQ _ ?_
                  clear hKQ KQ
                  go_big_quiet_want
                  rename_i KQ hKQ
                  apply Exists.intro
                  refine ⟨fun w' hw' => ?_, ?_⟩
                  · go_simp; exact rfl
                  go_simp
                  refine hKQ _ ?_
                  clear hKQ KQ
                  go_big_quiet_want
                  rename_i KQ hKQ
                  apply Exists.intro
                  refine ⟨fun w' hw' => ?_, ?_⟩
                  · go_simp; exact rfl
                  go_simp
                  refine hKQ _ ?_
                  clear hKQ KQ
                  go_big_quiet_want
                  rename_i KQ hKQ
                  apply Exists.intro
                  refine ⟨fun w' hw' => ?_, ?_⟩
                  · go_simp; exact rfl
                  go_simp
                  refine hKQ _ ?_
                  clear hKQ KQ
                  go_big_quiet_want
                  rename_i KQ hKQ
                  apply Exists.intro
                  refine ⟨fun w' hw' => ?_, ?_⟩
                  · have e1 := HCZ.out w' hw'; go_simp; exact rfl
                  go_simp
                  refine hKQ _ ?_
                  clear hKQ KQ
                  go_big_quiet_want
                  rename_i KQ hKQ
                  apply Exists.intro
                  refine ⟨fun w' hw' => ?_, ?_⟩
                  · go_simp; exact rfl
                  go_simp
                  refine hKQ _ ?_
                  clear hKQ KQ
                  go_big_quiet_want
                  rename_i KQ hKQ
                  apply Exists.intro
                  refine ⟨fun w' hw' => ?_, ?_⟩
                  · go_simp; exact rfl
                  go_simp
                  refine hKQ _ ?_
                  clear hKQ KQ
                  go_big_quiet_want
                  rename_i KQ hKQ
                  apply Exists.intro
                  refine ⟨fun w' hw' => ?_, ?_⟩
                  · go_simp; exact rfl
                  go_simp
                  refine hKQ _ ?_
                  clear hKQ KQ
                  go_big_quiet_want
                  rename_i KQ hKQ
                  apply Exists.intro
                  refine ⟨fun w' hw' => ?_, ?_⟩
                  · go_simp; exact rfl
                  go_simp
                  refine hKQ _ ?_
                  clear hKQ KQ
                  go_big_quiet_want
                  rename_i KQ hKQ
                  apply Exists.intro
                  refine ⟨fun w' hw' => ?_, ?_⟩
                  · go_simp; exact rfl
                  go_simp
                  refine hKQ _ ?_
                  clear hKQ KQ
                  go_big_quiet_want
                  rename_i KQ hKQ
                  apply Exists.intro
                  refine ⟨fun w' hw' => ?_, ?_⟩
                  · have e1 := HCZ.out w' hw'; go_simp; exact rfl
                  go_simp
                  refine hKQ _ ?_
                  clear hKQ KQ
                  go_big_quiet_want
                  rename_i KQ hKQ
                  apply Exists.intro
                  refine ⟨fun w' hw' => ?_, ?_⟩
                  · go_simp; exact rfl
                  go_simp
                  refine hKQ _ ?_
                  clear hKQ KQ
                  go_big_quiet_want
                  rename_i KQ hKQ
                  apply Exists.intro
                  refine ⟨fun w' hw' => ?_, ?_⟩
                  · go_simp; exact rfl
                  go_simp
                  refine hKQ _ ?_
                  clear hKQ KQ
                  refine qs rfl (fun KQ hKQ => ?_)
                  apply Exists.intro
                  refine ⟨fun w' hw' => ?_, ?_⟩
                  · go_simp; exact rfl
                  go_simp
                  refine hKQ _ ?_
                  clear hKQ KQ
                  refine qs rfl (fun KQ hKQ => ?_)
                  apply Exists.intro
                  refine ⟨fun w' hw' => ?_, ?_⟩
                  · go_simp; exact rfl
                  go_simp
                  refine hKQ _ ?_
                  clear hKQ KQ
                  go_big_quiet_skip
                  go_big_quiet_skip
                  go_big_quiet_skip
                  go_big_quiet_skip
                  go_big_quiet_skip
                  go_big_quiet_skip
                  go_big_quiet_skip
                  go_big_quiet_skip
                  go_big_quiet_skip
                  go_big_quiet_skip
                  go_big_quiet_skip
                  go_big_quiet_skip
                  go_big_quiet_skip
                  go_big_quiet_skip
                  go_big_quiet_skip
                  go_big_quiet_skip
                  go_big_quiet_skip
                  refine qs rfl (fun KQ hKQ => ?_)
                  apply Exists.intro
                  refine ⟨fun w' hw' => ?_, ?_⟩
                  · go_simp; exact rfl
                  go_simp
                  refine hKQ _ ?_
                  clear hKQ KQ
                  refine wpQuiet_nil ?_
                  intro w' hw'
                  have HW := hidd (show LLW w' W0.heap.size v7c (flt (chL bs K N i ++ chQ bs K i h ++ chR bs i j (c + 1))) ∧ Below W0.heap.size W0 w' from by
                    rw [HE.out]
                    exact ⟨HR3.out.1.below hw' (Nat.le_refl _), HR3.out.2.trans (hw'.mono HR3.out.2.size)⟩)
                  clear hw'
                  go_wp2_with fail
                  go_roundw
                  case rel => exact ⟨_, c + 1, rfl, by omega, by go_num, HW.out⟩
                  case measure => simp [intOf]; omega
                · have hz3d : decide (z < 3) = false := decide_eq_false hz3
                  obtain ⟨m, hm⟩ : ∃ m : Nat, z = (m : Int) + 2 := ⟨(z - 2).toNat, by omega⟩
                  have hm15 : m ≤ 15 := by omega
                  have HA1 := hidd (fun W => around63 (N : Int) (K : Int) bs HB.out (i : Int) (c : Int) W (by omega) (by omega) (by omega) (by omega))
                  have HA2 := hidd (fun W => around63 (N : Int) (K : Int) bs HB.out (j : Int) (c : Int) W (by omega) (by omega) (by omega) (by omega))
                  obtain ⟨r1, hr1⟩ : ∃ r1, r1 = rwN bs (c : Int) N i := ⟨_, rfl⟩
                  obtain ⟨r2, hr2⟩ : ∃ r2, r2 = rwN bs (c : Int) N j := ⟨_, rfl⟩
                  rw [Int.toNat_natCast, show arK (nbB bs (i : Int) (c : Int)) N = rwN bs (c : Int) N i from rfl, ← hr1] at HA1
                  rw [Int.toNat_natCast, show arK (nbB bs (j : Int) (c : Int)) N = rwN bs (c : Int) N j from rfl, ← hr2] at HA2
                  have hr117 : r1 < 2 ^ 17 := by rw [hr1]; unfold rwN; exact Nat.lt_of_lt_of_le (arK_lt _ _) (Nat.pow_le_pow_right (by decide) (by omega))
                  have hr217 : r2 < 2 ^ 17 := by rw [hr2]; unfold rwN; exact Nat.lt_of_lt_of_le (arK_lt _ _) (Nat.pow_le_pow_right (by decide) (by omega))
                  have hand := i64_and_nat r1 r2 (by omega) (by omega)
                  have hA17 : r1 &&& r2 < 2 ^ 17 := Nat.lt_of_le_of_lt Nat.and_le_left (by omega)
                  obtain ⟨A, hA⟩ : ∃ A, A = r1 &&& r2 := ⟨_, rfl⟩
                  rw [← hA] at hand hA17
                  have HCQ := hidd (fun W => clq69 N (K : Int) (c : Int) bs HB.out n1 n17 m (by omega) A hA17 W)
                  obtain ⟨x, hx⟩ : ∃ x, x = hasK (rwN bs (c : Int) N) N m A := ⟨_, rfl⟩
                  rw [← hx] at HCQ
                  have HFR := hidd (show frC bs N zs (i, j, c) = !x from by
                    unfold frC; dsimp only
                    rw [← HZE.out, hz3d, hx, hA, hr1, hr2, hm]
                    rw [show ((m : Int) + 2).toNat - 2 = m by omega]; simp)
                  have hmw : IntKind.i64.wrap (m : Int) = (m : Int) := IntWalk.i64_in _ (by omega)
                  have hzm : z - 2 = (m : Int) := by omega
                  have hzw : IntKind.i64.wrap (z - 2) = (m : Int) := by rw [hzm]; exact hmw
                  clear hm hr1 hr2 hA hx hr117 hr217 hz
                  cases x with
                  | true =>
                    have HE := hidd (show flt (chL bs K N i ++ chQ bs K i h ++ chR bs i j (c + 1)) = flt (chL bs K N i ++ chQ bs K i h ++ chR bs i j c) from by
                      rw [HER.out, ← List.append_assoc]
                      exact HFS.out _ _ HFR.out)
                    go_wp2_with fail
                    refine wp_region_quiet_at (fun w' => Below wr.heap.size wr w') rfl (by kernel_rfl) ((Below.refl _ _).drew) ?_
                    refine qs rfl (fun KQ hKQ => ?_)
                    apply Exists.intro
                    refine ⟨fun w' hw' => ?_, ?_⟩
                    · go_simp; exact rfl
                    go_simp
                    refine hKQ _ ?_
                    clear hKQ KQ
                    refine qs rfl (fun KQ hKQ => ?_)
                    apply Exists.intro
                    refine ⟨fun w' hw' => ?_, ?_⟩
                    · exact quietRow 28 (.tmp 2) rfl w.heap.size rfl 28 _ _ (HBW.out.below hw' HBW.out.lt) Tryd.underlying28 rfl HS.out
                    go_simp
                    refine hKQ _ ?_
                    clear hKQ KQ
                    refine qs rfl (fun KQ hKQ => ?_)
                    apply Exists.intro
                    refine ⟨fun w' hw' => ?_, ?_⟩
                    · go_simp; exact rfl
                    go_simp
                    refine hKQ _ ?_
                    clear hKQ KQ
                    refine qs rfl (fun KQ hKQ => ?_)
                    apply Exists.intro
                    refine ⟨fun w' hw' => ?_, ?_⟩
                    · go_simp; exact rfl
                    go_simp
                    refine hKQ _ ?_
                    clear hKQ KQ
                    refine qs rfl (fun KQ hKQ => ?_)
                    apply Exists.intro
                    refine ⟨fun w' hw' => ?_, ?_⟩
                    · go_simp; exact (HAT.out _).mono fun _ _ h => ⟨h.1, hw'.trans (h.2.mono hw'.size)⟩
                    go_simp
                    refine hKQ _ ?_
                    clear hKQ KQ
                    refine qs rfl (fun KQ hKQ => ?_)
                    apply Exists.intro
                    refine ⟨fun w' hw' => ?_, ?_⟩
                    · go_simp; exact rfl
                    go_simp
                    refine hKQ _ ?_
                    clear hKQ KQ
                    refine qs rfl (fun KQ hKQ => ?_)
                    apply Exists.intro
                    refine ⟨fun w' hw' => ?_, ?_⟩
                    · go_simp; exact rfl
                    go_simp
                    refine hKQ _ ?_
                    clear hKQ KQ
                    go_big_quiet_want
                    rename_i KQ hKQ
                    apply Exists.intro
                    refine ⟨fun w' hw' => ?_, ?_⟩
                    · go_simp; exact rfl
                    go_simp
                    refine hKQ _ ?_
                    clear hKQ KQ
                    go_big_quiet_want
                    rename_i KQ hKQ
                    apply Exists.intro
                    refine ⟨fun w' hw' => ?_, ?_⟩
                    · go_simp; exact rfl
                    go_simp
                    refine hKQ _ ?_
                    clear hKQ KQ
                    go_big_quiet_want
                    rename_i KQ hKQ
                    apply Exists.intro
                    refine ⟨fun w' hw' => ?_, ?_⟩
                    · go_simp; exact rfl
                    go_simp
                    refine hKQ _ ?_
                    clear hKQ KQ
                    go_big_quiet_want
                    rename_i KQ hKQ
                    apply Exists.intro
                    refine ⟨fun w' hw' => ?_, ?_⟩
                    · have e1 := HCZ.out w' hw'; go_simp; exact rfl
                    go_simp
                    refine hKQ _ ?_
                    clear hKQ KQ
                    go_big_quiet_want
                    rename_i KQ hKQ
                    apply Exists.intro
                    refine ⟨fun w' hw' => ?_, ?_⟩
                    · go_simp; exact rfl
                    go_simp
                    refine hKQ _ ?_
                    clear hKQ KQ
                    go_big_quiet_want
                    rename_i KQ hKQ
                    apply Exists.intro
                    refine ⟨fun w' hw' => ?_, ?_⟩
                    · go_simp; exact rfl
                    go_simp
                    refine hKQ _ ?_
                    clear hKQ KQ
                    go_big_quiet_skip
                    go_big_quiet_skip
                    go_big_quiet_skip
                    go_big_quiet_skip
                    go_big_quiet_skip
                    go_big_quiet_want
                    rename_i KQ hKQ
                    apply Exists.intro
                    refine ⟨fun w' hw' => ?_, ?_⟩
                    · go_simp; exact rfl
                    go_simp
                    refine hKQ _ ?_
                    clear hKQ KQ
                    refine qs rfl (fun KQ hKQ => ?_)
                    apply Exists.intro
                    refine ⟨fun w' hw' => ?_, ?_⟩
                    · go_simp; exact rfl
                    go_simp
                    refine hKQ _ ?_
                    clear hKQ KQ
                    refine qs rfl (fun KQ hKQ => ?_)
                    apply Exists.intro
                    refine ⟨fun w' hw' => ?_, ?_⟩
                    · go_simp; exact rfl
                    go_simp
                    refine hKQ _ ?_
                    clear hKQ KQ
                    go_big_quiet_want
                    rename_i KQ hKQ
                    apply Exists.intro
                    refine ⟨fun w' hw' => ?_, ?_⟩
                    · exact quietRow 28 (.tmp 2) rfl w.heap.size rfl 28 _ _ (HBW.out.below hw' HBW.out.lt) Tryd.underlying28 rfl HS.out
                    go_simp
                    refine hKQ _ ?_
                    clear hKQ KQ
                    go_big_quiet_want
                    rename_i KQ hKQ
                    apply Exists.intro
                    refine ⟨fun w' hw' => ?_, ?_⟩
                    · go_simp; exact rfl
                    go_simp
                    refine hKQ _ ?_
                    clear hKQ KQ
                    go_big_quiet_want
                    rename_i KQ hKQ
                    apply Exists.intro
                    refine ⟨fun w' hw' => ?_, ?_⟩
                    · exact quietRow 28 (.tmp 2) rfl w.heap.size rfl 28 _ _ (HBW.out.below hw' HBW.out.lt) Tryd.underlying28 rfl HS.out
                    go_simp
                    refine hKQ _ ?_
                    clear hKQ KQ
                    go_big_quiet_want
                    rename_i KQ hKQ
                    apply Exists.intro
                    refine ⟨fun w' hw' => ?_, ?_⟩
                    · go_simp; exact rfl
                    go_simp
                    refine hKQ _ ?_
                    clear hKQ KQ
                    go_big_quiet_want
                    rename_i KQ hKQ
                    apply Exists.intro
                    refine ⟨fun w' hw' => ?_, ?_⟩
                    · go_simp; exact rfl
                    go_simp
                    refine hKQ _ ?_
                    clear hKQ KQ
                    go_big_quiet_want
                    rename_i KQ hKQ
                    apply Exists.intro
                    refine ⟨fun w' hw' => ?_, ?_⟩
                    · go_simp; exact (HA1.out _).mono fun _ _ h => ⟨h.1, hw'.trans (h.2.mono hw'.size)⟩
                    go_simp
                    refine hKQ _ ?_
                    clear hKQ KQ
                    go_big_quiet_want
                    rename_i KQ hKQ
                    apply Exists.intro
                    refine ⟨fun w' hw' => ?_, ?_⟩
                    · exact quietRow 28 (.tmp 2) rfl w.heap.size rfl 28 _ _ (HBW.out.below hw' HBW.out.lt) Tryd.underlying28 rfl HS.out
                    go_simp
                    refine hKQ _ ?_
                    clear hKQ KQ
                    go_big_quiet_want
                    rename_i KQ hKQ
                    apply Exists.intro
                    refine ⟨fun w' hw' => ?_, ?_⟩
                    · go_simp; exact rfl
                    go_simp
                    refine hKQ _ ?_
                    clear hKQ KQ
                    go_big_quiet_want
                    rename_i KQ hKQ
                    apply Exists.intro
                    refine ⟨fun w' hw' => ?_, ?_⟩
                    · go_simp; exact rfl
                    go_simp
                    refine hKQ _ ?_
                    clear hKQ KQ
                    go_big_quiet_want
                    rename_i KQ hKQ
                    apply Exists.intro
                    refine ⟨fun w' hw' => ?_, ?_⟩
                    · go_simp; exact (HA2.out _).mono fun _ _ h => ⟨h.1, hw'.trans (h.2.mono hw'.size)⟩
                    go_simp
                    refine hKQ _ ?_
                    clear hKQ KQ
                    go_big_quiet_want
                    rename_i KQ hKQ
                    apply Exists.intro
                    refine ⟨fun w' hw' => ?_, ?_⟩
                    · go_simp; exact rfl
                    go_simp
                    refine hKQ _ ?_
                    clear hKQ KQ
                    go_big_quiet_want
                    rename_i KQ hKQ
                    apply Exists.intro
                    refine ⟨fun w' hw' => ?_, ?_⟩
                    · go_simp; exact rfl
                    go_simp
                    refine hKQ _ ?_
                    clear hKQ KQ
                    go_big_quiet_want
                    rename_i KQ hKQ
                    apply Exists.intro
                    refine ⟨fun w' hw' => ?_, ?_⟩
                    · go_simp; exact rfl
                    go_simp
                    refine hKQ _ ?_
                    clear hKQ KQ
                    go_big_quiet_want
                    rename_i KQ hKQ
                    apply Exists.intro
                    refine ⟨fun w' hw' => ?_, ?_⟩
                    · go_simp; exact rfl
                    go_simp
                    refine hKQ _ ?_
                    clear hKQ KQ
                    go_big_quiet_want
                    rename_i KQ hKQ
                    apply Exists.intro
                    refine ⟨fun w' hw' => ?_, ?_⟩
                    · have e1 := HCZ.out w' hw'; go_simp; exact rfl
                    go_simp
                    refine hKQ _ ?_
                    clear hKQ KQ
                    go_big_quiet_want
                    rename_i KQ hKQ
                    apply Exists.intro
                    refine ⟨fun w' hw' => ?_, ?_⟩
                    · go_simp; exact rfl
                    go_simp
                    refine hKQ _ ?_
                    clear hKQ KQ
                    go_big_quiet_want
                    rename_i KQ hKQ
                    apply Exists.intro
                    refine ⟨fun w' hw' => ?_, ?_⟩
                    · go_simp; exact (HCQ.out _).mono fun _ _ h => ⟨h.1, hw'.trans (h.2.mono hw'.size)⟩
                    go_simp
                    refine hKQ _ ?_
                    clear hKQ KQ
                    refine qs rfl (fun KQ hKQ => ?_)
                    apply Exists.intro
                    refine ⟨fun w' hw' => ?_, ?_⟩
                    · go_simp; exact rfl
                    go_simp
                    refine hKQ _ ?_
                    clear hKQ KQ
                    refine wpQuiet_nil ?_
                    intro w' hw'
                    have HW := hidd (show LLW w' W0.heap.size v7c (flt (chL bs K N i ++ chQ bs K i h ++ chR bs i j (c + 1))) ∧ Below W0.heap.size W0 w' from by
                      rw [HE.out]
                      exact ⟨HR3.out.1.below hw' (Nat.le_refl _), HR3.out.2.trans (hw'.mono HR3.out.2.size)⟩)
                    clear hw'
                    go_wp2_with fail
                    go_roundw
                    case rel => exact ⟨_, c + 1, rfl, by omega, by go_num, HW.out⟩
                    case measure => simp [intOf]; omega
                  | false =>
                    have HE := hidd (show flt (chL bs K N i ++ chQ bs K i h ++ chR bs i j (c + 1)) = flt (chL bs K N i ++ chQ bs K i h ++ chR bs i j c) ++ [trL (i, j, c)] from by
                      rw [HER.out, ← List.append_assoc]
                      exact HFA.out _ _ HFR.out)
                    have hLL := HFL.out i h c hlt (by rw [← HJJ.out]; exact hlt2) hlt3
                    rw [← HJJ.out] at hLL
                    obtain ⟨a7, c7, rfl⟩ := HR3.out.1.shape
                    obtain ⟨l7, hl7⟩ : ∃ l7, l7 = (flt (chL bs K N i ++ chQ bs K i h ++ chR bs i j c)).length := ⟨_, rfl⟩
                    rw [← hl7] at HR3 hLL ⊢
                    have HL7 := hidd hl7
                    clear hl7
                    go_wp2_with fail
                    refine wp_region_quiet_at (fun w' => Below wr.heap.size wr w') rfl (by kernel_rfl) ((Below.refl _ _).drew) ?_
                    refine qs rfl (fun KQ hKQ => ?_)
                    apply Exists.intro
                    refine ⟨fun w' hw' => ?_, ?_⟩
                    · go_simp; exact rfl
                    go_simp
                    refine hKQ _ ?_
                    clear hKQ KQ
                    refine qs rfl (fun KQ hKQ => ?_)
                    apply Exists.intro
                    refine ⟨fun w' hw' => ?_, ?_⟩
                    · exact quietRow 28 (.tmp 2) rfl w.heap.size rfl 28 _ _ (HBW.out.below hw' HBW.out.lt) Tryd.underlying28 rfl HS.out
                    go_simp
                    refine hKQ _ ?_
                    clear hKQ KQ
                    refine qs rfl (fun KQ hKQ => ?_)
                    apply Exists.intro
                    refine ⟨fun w' hw' => ?_, ?_⟩
                    · go_simp; exact rfl
                    go_simp
                    refine hKQ _ ?_
                    clear hKQ KQ
                    refine qs rfl (fun KQ hKQ => ?_)
                    apply Exists.intro
                    refine ⟨fun w' hw' => ?_, ?_⟩
                    · go_simp; exact rfl
                    go_simp
                    refine hKQ _ ?_
                    clear hKQ KQ
                    refine qs rfl (fun KQ hKQ => ?_)
                    apply Exists.intro
                    refine ⟨fun w' hw' => ?_, ?_⟩
                    · go_simp; exact (HAT.out _).mono fun _ _ h => ⟨h.1, hw'.trans (h.2.mono hw'.size)⟩
                    go_simp
                    refine hKQ _ ?_
                    clear hKQ KQ
                    refine qs rfl (fun KQ hKQ => ?_)
                    apply Exists.intro
                    refine ⟨fun w' hw' => ?_, ?_⟩
                    · go_simp; exact rfl
                    go_simp
                    refine hKQ _ ?_
                    clear hKQ KQ
                    refine qs rfl (fun KQ hKQ => ?_)
                    apply Exists.intro
                    refine ⟨fun w' hw' => ?_, ?_⟩
                    · go_simp; exact rfl
                    go_simp
                    refine hKQ _ ?_
                    clear hKQ KQ
                    go_big_quiet_want
                    rename_i KQ hKQ
                    apply Exists.intro
                    refine ⟨fun w' hw' => ?_, ?_⟩
                    · go_simp; exact rfl
                    go_simp
                    refine hKQ _ ?_
                    clear hKQ KQ
                    go_big_quiet_want
                    rename_i KQ hKQ
                    apply Exists.intro
                    refine ⟨fun w' hw' => ?_, ?_⟩
                    · go_simp; exact rfl
                    go_simp
                    refine hKQ _ ?_
                    clear hKQ KQ
                    go_big_quiet_want
                    rename_i KQ hKQ
                    apply Exists.intro
                    refine ⟨fun w' hw' => ?_, ?_⟩
                    · go_simp; exact rfl
                    go_simp
                    refine hKQ _ ?_
                    clear hKQ KQ
                    go_big_quiet_want
                    rename_i KQ hKQ
                    apply Exists.intro
                    refine ⟨fun w' hw' => ?_, ?_⟩
                    · have e1 := HCZ.out w' hw'; go_simp; exact rfl
                    go_simp
                    refine hKQ _ ?_
                    clear hKQ KQ
                    go_big_quiet_want
                    rename_i KQ hKQ
                    apply Exists.intro
                    refine ⟨fun w' hw' => ?_, ?_⟩
                    · go_simp; exact rfl
                    go_simp
                    refine hKQ _ ?_
                    clear hKQ KQ
                    go_big_quiet_want
                    rename_i KQ hKQ
                    apply Exists.intro
                    refine ⟨fun w' hw' => ?_, ?_⟩
                    · go_simp; exact rfl
                    go_simp
                    refine hKQ _ ?_
                    clear hKQ KQ
                    go_big_quiet_skip
                    go_big_quiet_skip
                    go_big_quiet_skip
                    go_big_quiet_skip
                    go_big_quiet_skip
                    go_big_quiet_want
                    rename_i KQ hKQ
                    apply Exists.intro
                    refine ⟨fun w' hw' => ?_, ?_⟩
                    · go_simp; exact rfl
                    go_simp
                    refine hKQ _ ?_
                    clear hKQ KQ
                    refine qs rfl (fun KQ hKQ => ?_)
                    apply Exists.intro
                    refine ⟨fun w' hw' => ?_, ?_⟩
                    · go_simp; exact rfl
                    go_simp
                    refine hKQ _ ?_
                    clear hKQ KQ
                    refine qs rfl (fun KQ hKQ => ?_)
                    apply Exists.intro
                    refine ⟨fun w' hw' => ?_, ?_⟩
                    · go_simp; exact rfl
                    go_simp
                    refine hKQ _ ?_
                    clear hKQ KQ
                    go_big_quiet_want
                    rename_i KQ hKQ
                    apply Exists.intro
                    refine ⟨fun w' hw' => ?_, ?_⟩
                    · exact quietRow 28 (.tmp 2) rfl w.heap.size rfl 28 _ _ (HBW.out.below hw' HBW.out.lt) Tryd.underlying28 rfl HS.out
                    go_simp
                    refine hKQ _ ?_
                    clear hKQ KQ
                    go_big_quiet_want
                    rename_i KQ hKQ
                    apply Exists.intro
                    refine ⟨fun w' hw' => ?_, ?_⟩
                    · go_simp; exact rfl
                    go_simp
                    refine hKQ _ ?_
                    clear hKQ KQ
                    go_big_quiet_want
                    rename_i KQ hKQ
                    apply Exists.intro
                    refine ⟨fun w' hw' => ?_, ?_⟩
                    · exact quietRow 28 (.tmp 2) rfl w.heap.size rfl 28 _ _ (HBW.out.below hw' HBW.out.lt) Tryd.underlying28 rfl HS.out
                    go_simp
                    refine hKQ _ ?_
                    clear hKQ KQ
                    go_big_quiet_want
                    rename_i KQ hKQ
                    apply Exists.intro
                    refine ⟨fun w' hw' => ?_, ?_⟩
                    · go_simp; exact rfl
                    go_simp
                    refine hKQ _ ?_
                    clear hKQ KQ
                    go_big_quiet_want
                    rename_i KQ hKQ
                    apply Exists.intro
                    refine ⟨fun w' hw' => ?_, ?_⟩
                    · go_simp; exact rfl
                    go_simp
                    refine hKQ _ ?_
                    clear hKQ KQ
                    go_big_quiet_want
                    rename_i KQ hKQ
                    apply Exists.intro
                    refine ⟨fun w' hw' => ?_, ?_⟩
                    · go_simp; exact (HA1.out _).mono fun _ _ h => ⟨h.1, hw'.trans (h.2.mono hw'.size)⟩
                    go_simp
                    refine hKQ _ ?_
                    clear hKQ KQ
                    go_big_quiet_want
                    rename_i KQ hKQ
                    apply Exists.intro
                    refine ⟨fun w' hw' => ?_, ?_⟩
                    · exact quietRow 28 (.tmp 2) rfl w.heap.size rfl 28 _ _ (HBW.out.below hw' HBW.out.lt) Tryd.underlying28 rfl HS.out
                    go_simp
                    refine hKQ _ ?_
                    clear hKQ KQ
                    go_big_quiet_want
                    rename_i KQ hKQ
                    apply Exists.intro
                    refine ⟨fun w' hw' => ?_, ?_⟩
                    · go_simp; exact rfl
                    go_simp
                    refine hKQ _ ?_
                    clear hKQ KQ
                    go_big_quiet_want
                    rename_i KQ hKQ
                    apply Exists.intro
                    refine ⟨fun w' hw' => ?_, ?_⟩
                    · go_simp; exact rfl
                    go_simp
                    refine hKQ _ ?_
                    clear hKQ KQ
                    go_big_quiet_want
                    rename_i KQ hKQ
                    apply Exists.intro
                    refine ⟨fun w' hw' => ?_, ?_⟩
                    · go_simp; exact (HA2.out _).mono fun _ _ h => ⟨h.1, hw'.trans (h.2.mono hw'.size)⟩
                    go_simp
                    refine hKQ _ ?_
                    clear hKQ KQ
                    go_big_quiet_want
                    rename_i KQ hKQ
                    apply Exists.intro
                    refine ⟨fun w' hw' => ?_, ?_⟩
                    · go_simp; exact rfl
                    go_simp
                    refine hKQ _ ?_
                    clear hKQ KQ
                    go_big_quiet_want
                    rename_i KQ hKQ
                    apply Exists.intro
                    refine ⟨fun w' hw' => ?_, ?_⟩
                    · go_simp; exact rfl
                    go_simp
                    refine hKQ _ ?_
                    clear hKQ KQ
                    go_big_quiet_want
                    rename_i KQ hKQ
                    apply Exists.intro
                    refine ⟨fun w' hw' => ?_, ?_⟩
                    · go_simp; exact rfl
                    go_simp
                    refine hKQ _ ?_
                    clear hKQ KQ
                    go_big_quiet_want
                    rename_i KQ hKQ
                    apply Exists.intro
                    refine ⟨fun w' hw' => ?_, ?_⟩
                    · go_simp; exact rfl
                    go_simp
                    refine hKQ _ ?_
                    clear hKQ KQ
                    go_big_quiet_want
                    rename_i KQ hKQ
                    apply Exists.intro
                    refine ⟨fun w' hw' => ?_, ?_⟩
                    · have e1 := HCZ.out w' hw'; go_simp; exact rfl
                    go_simp
                    refine hKQ _ ?_
                    clear hKQ KQ
                    go_big_quiet_want
                    rename_i KQ hKQ
                    apply Exists.intro
                    refine ⟨fun w' hw' => ?_, ?_⟩
                    · go_simp; exact rfl
                    go_simp
                    refine hKQ _ ?_
                    clear hKQ KQ
                    go_big_quiet_want
                    rename_i KQ hKQ
                    apply Exists.intro
                    refine ⟨fun w' hw' => ?_, ?_⟩
                    · go_simp; exact (HCQ.out _).mono fun _ _ h => ⟨h.1, hw'.trans (h.2.mono hw'.size)⟩
                    go_simp
                    refine hKQ _ ?_
                    clear hKQ KQ
                    refine qs rfl (fun KQ hKQ => ?_)
                    apply Exists.intro
                    refine ⟨fun w' hw' => ?_, ?_⟩
                    · go_simp; exact rfl
                    go_simp
                    refine hKQ _ ?_
                    clear hKQ KQ
                    refine wpQuiet_nil ?_
                    intro w' hw'
                    have hW1 := HR3.out.1.below hw' (Nat.le_refl _)
                    have hW2 := HR3.out.2.trans (hw'.mono HR3.out.2.size)
                    obtain ⟨xs, hxs⟩ : ∃ xs, xs = flt (chL bs K N i ++ chQ bs K i h ++ chR bs i j c) := ⟨_, rfl⟩
                    rw [← hxs] at hW1 HL7
                    have HXS := hidd hxs
                    have HW := hidd (And.intro hW1 hW2)
                    clear hw' hW1 hW2 hxs
                    obtain ⟨X, hX⟩ : ∃ X, X = w'.alloc (.cells #[.int .i64 (i : Int), .int .i64 (j : Int), .int .i64 (c : Int)] 2) := ⟨_, rfl⟩
                    have HX := hidd (show Below w'.heap.size w' X ∧ OwnL X w'.heap.size (some ⟨w'.heap.size, 0, none⟩) (trL (i, j, c)) from by
                      rw [hX]; exact ⟨(Below.refl _ _).alloc (Nat.le_refl _) _, own_tr⟩)
                    obtain ⟨AA, hA1, hA2, hA3⟩ := HW.out.1
                    have hown0 := own_below (own_below hA1 HX.out.1 (Nat.le_refl _)) ((Below.refl X.heap.size X).alloc (Nat.le_refl _) (.cells #[.slice (some ⟨w'.heap.size, 0, none⟩) 3 3] 25)) (Nat.le_refl _)
                    have HAA := hidd (And.intro hA2 hA3)
                    have HO := hidd hown0
                    have hsX := HX.out.1.size
                    have hsW := HW.out.2.size
                    have hXsz : X.heap.size = w'.heap.size + 1 := by rw [hX]; simp
                    have HON := hidd (show ∀ j u, [Value.slice (some ⟨w'.heap.size, 0, none⟩) 3 3][j]? = some u → (X.alloc (.cells #[.slice (some ⟨w'.heap.size, 0, none⟩) 3 3] 25)).cell? ((⟨w'.heap.size + 1, 0, none⟩ : Addr).add j) = some u from by rw [← hXsz]; exact one_new _ _ _)
                    clear hA1 hA2 hA3 hown0 hXsz
                    go_wp2_with (at_builtin; rw [← hX]; refine wpList_append_own _ rfl _ _ 39 rfl W0.heap.size 25 t0 (.slice none 0 0) 1 24 Tryd.underlying39 HIF.out.1 HIF.out.2.1 HIF.out.2.2.1 HIF.out.2.2.2 rfl (by decide) _ _ _ rfl HO.out ⟨w'.heap.size + 1, 0, none⟩ 1 1 [.slice (some ⟨w'.heap.size, 0, none⟩) 3 3] rfl ?c1 ?c2 ?c3 ?c4 ?c5 ?c6 ?_)
                    case c1 => rfl
                    case c2 => exact HON.out
                    case c3 => intro u hu; simp at hu; subst hu; rfl
                    case c4 => unfold maxLen; rw [← HL7.out]; omega
                    case c5 => rw [← HL7.out]; omega
                    case c6 => simp; omega
                    intro v' Y hown' hgrow _
                    rw [← hX] at hgrow
                    have hbXa : Below w'.heap.size w' (X.alloc (.cells #[.slice (some ⟨w'.heap.size, 0, none⟩) 3 3] 25)) := HX.out.1.alloc hsX _
                    have hbY : Below W0.heap.size (X.alloc (.cells #[.slice (some ⟨w'.heap.size, 0, none⟩) 3 3] 25)) Y := grown_plain HO.out hgrow (by simp; omega)
                    have hLY := LLW.push (zs := trL (i, j, c)) HW.out.1 hsW HX.out.1 HX.out.2 hgrow HAA.out hown'
                    have HF := hidd (show LLW Y W0.heap.size v' (flt (chL bs K N i ++ chQ bs K i h ++ chR bs i j (c + 1))) ∧ Below W0.heap.size W0 Y from by
                      rw [HE.out, ← HXS.out]
                      exact ⟨hLY, (HW.out.2.trans (hbXa.mono hsW)).trans hbY⟩)
                    clear hbXa hbY hLY hown' hgrow hX hsX hsW
                    go_wp2_with fail
                    go_roundw
                    case rel => exact ⟨_, c + 1, rfl, by omega, by go_num, HF.out⟩
                    case measure => simp [intOf]; omega
            · have hck : c = K := by omega
              have hlt3I : decide ((c : Int) < (K : Int)) = false := by simp; omega
              subst hck
              go_wp2_with fail
              go_roundw
              case rel => exact ⟨_, h + 1, rfl, by have := HJJ.out; omega, by have := HJJ.out; simp; omega, by have h3 := HR3.out; rw [chQ_step, ← HJJ.out, ← List.append_assoc]; exact h3⟩
              case measure => simp [intOf]; omega
        · have hjN : j = N := by omega
          have hhN : h = N - (i + 1) := by omega
          clear hj
          subst hjN
          go_wp2_with fail
          go_roundw
          case rel => exact ⟨_, i + 1, rfl, by omega, by go_num, by have h3 := HR2.out; rw [chL_step, ← hhN]; exact h3⟩
          case measure => simp [intOf]; omega
    · have hiN : i = N := by omega
      subst hiN
      obtain ⟨a7, c7, rfl⟩ := HR.out.1.shape
      have HO := hidd HR.out.1.out
      have HBZ := hidd (HBK.out _ HR.out.2)
      go_wp2_with fail
      go_ret2
      obtain ⟨a, cap2, hv, hO⟩ := HO.out
      cases hv
      exact ⟨_, _, rfl, hO.reads, HBZ.out.2⟩
end Go.Proofs.YtckffliiidgilaaDoor
