/- The model's colourings with a name. -/
import Derived.Test.YtoiamgmlehmomaaCir
import Derived.Test.YtoiamgmlehmomaaGe
namespace Go.Proofs.Ytoiamgmlehmomaa
set_option linter.unusedVariables false
set_option linter.unusedSimpArgs false
open Go Go.RowKit
def kndL : List Nat := [0, 0, 1, 1, 2, 2, 2, 1, 0, 2, 0, 1, 0, 1, 2, 0]
theorem knd_all : ((List.range 16).all fun hi => (List.range hi).all fun lo => decide (0 ≤ bits BinOp.xor .i64 (lo : Int) (hi : Int) ∧ bits BinOp.xor .i64 (lo : Int) (hi : Int) < 16 ∧ ((kndL.getD (bits BinOp.xor .i64 (lo : Int) (hi : Int)).toNat 0 : Nat) : Int) = sxR lo hi)) = true := by decide +kernel
theorem knd_at {lo hi : Nat} (h1 : lo < hi) (h2 : hi < 16) : ∃ T : Nat, bits BinOp.xor .i64 (lo : Int) (hi : Int) = (T : Int) ∧ T < 16 ∧ ((kndL.getD T 0 : Nat) : Int) = sxR lo hi := by
  have h := of_decide_eq_true (List.all_eq_true.1 (List.all_eq_true.1 knd_all hi (List.mem_range.2 h2)) lo (List.mem_range.2 h1))
  exact ⟨_, (Int.toNat_of_nonneg h.1).symm, by omega, h.2.2⟩
def RelSx (w : World) (j i : Nat) (wr : World) : Prop :=
  Blk wr w.heap.size (ccells 0 0 zbl).toArray 24 ∧ Blk wr (w.heap.size + 1) (bcells kndL).toArray 5 ∧ Blk wr (w.heap.size + 1 + 1) (ccells 16 3 (ptB sxR j i)).toArray 24 ∧ Below w.heap.size w wr
theorem RelSx.put {w : World} {j i : Nat} {wr w' : World} (h : RelSx w j i wr) (hw' : Below wr.heap.size wr w') {E : Nat} (hE : E = eN j + i) (hE136 : E < 136) {v : Int} (hv : v = sxR i j) :
    (∃ old, w'.cell? ⟨w.heap.size + 1 + 1, 2 + E, none⟩ = some old) ∧ w'.frozen? ⟨w.heap.size + 1 + 1, 2 + E, none⟩ = false ∧ RelSx w j (i + 1) (w'.setCell ⟨w.heap.size + 1 + 1, 2 + E, none⟩ (.int .u8 v)) := by
  obtain ⟨q1, q2, q3, q4⟩ := h
  have q3' := q3.below hw' q3.lt
  have hbe := (q4.trans (hw'.mono q4.size)).setCell (p := ⟨w.heap.size + 1 + 1, 2 + E, none⟩) (by show w.heap.size ≤ w.heap.size + 1 + 1; omega) (.int .u8 v)
  have HRB : ∀ lo hi, 0 ≤ sxR lo hi ∧ sxR lo hi < 256 := fun _ _ => sx_bd _
  refine ⟨⟨_, q3'.cell ((ptB_bys HRB j i).cget 16 3 hE136)⟩, q3'.fro _, (q1.below hw' q1.lt).other _ _ (by show w.heap.size ≠ w.heap.size + 1 + 1; omega), (q2.below hw' q2.lt).other _ _ (by show w.heap.size + 1 ≠ w.heap.size + 1 + 1; omega), ?_, hbe⟩
  have s := q3'.same (2 + E) (.int .u8 v)
  obtain ⟨x, hx⟩ := Int.eq_ofNat_of_zero_le (hv ▸ (HRB i j).1 : 0 ≤ v)
  rw [hx, ccells_set] at s
  rw [ptB_step, ← hv, hx, ← hE, Int.toNat_natCast]
  exact s
/-- What l01Named returns. -/
def nmOut (s : ByteArray) : Value := .tuple #[.agg (ccells (ncN s) (ncK s) (ncB s)).toArray, .bool (decide (ncI s ≠ 5))]
theorem nmOut_at (i : Nat) (hi : i < 5) : nmOut (pcT i) = .tuple #[pcV i, .bool true] := by
  have h := ncI_at i hi
  unfold nmOut ncN ncK ncB
  rw [h, if_neg (by omega), if_neg (by omega), if_neg (by omega), decide_eq_true (by omega)]
  rfl
theorem nmOut_none {s : ByteArray} (h : ∀ i, i < 5 → pcT i ≠ s) : nmOut s = .tuple #[.agg (ccells 0 0 zbl).toArray, .bool false] := by
  unfold nmOut ncN ncK ncB
  rw [ncI_none h]
  rfl
theorem slI_new (w : World) (zs : List Int) (C : Array Value) (t : TypeId) (b : Nat) (hb : b = w.heap.size) (hC : C = (icells zs).toArray) : SlI (w.alloc (.cells C t)) (some ⟨b, 0, none⟩) zs := by
  subst hb
  refine .inr ⟨w.heap.size, 0, rfl, fun j hj => ?_⟩
  subst hC
  exact (Blk.new w (icells zs).toArray t _ rfl).cell (j := 0 + j) (v := .int .i64 (zs.getD j 0)) (by simp [icells, List.getD, hj])
theorem mod_at (i : Nat) (hi : i < 4) (a : Option Addr) (w : World) (hs : SlI w a (pcZ i)) :
    Calls Try.prog 22 #[.int .i64 (pcN i : Int), .slice a (pcZ i).length (pcZ i).length] w fun e w' => e = .returned (pcV i) ∧ Below w.heap.size w w' := by
  have h := circle22 (pcN i) (pcZ i) a (pcZ i).length w hs (by have := pcN_bd i; omega) (by have := pcN_bd i; omega) (by unfold pcZ; split <;> simp)
  have e : pcV i = .agg (ccells (pcN i : Int) 2 (paintB (pcN i) (dfR (pcZ i)))).toArray := by
    have h4 : i ≠ 4 := by omega
    unfold pcV pcB
    rw [if_neg h4, show pcK i = 2 by unfold pcK; split <;> first | omega | rfl]
  rw [e]; exact h
set_option maxRecDepth 100000 in
set_option maxHeartbeats 4000000 in
theorem named15_0 (w : World) : Calls Try.prog 15 #[.string { data := #[112, 101, 110, 116, 97, 103, 111, 110] }] w fun e w' => e = .returned (.tuple #[pcV 0, .bool true]) ∧ Below w.heap.size w w' := by
  have Hz := zero26
  have hb := pcB_bys 0
  have HS := hidd (size_c26 (pcN 0) (pcK 0) hb)
  have HO := hidd (size_cc 0 0 (pcN 0) (pcK 0) zbl_bys hb)
  have HA := hidd (ccells_one (pcN 0) (pcK 0) (pcB 0))
  go_enter Try.func15, Try.ntmps15
  go_wp2_with fail
  refine Calls.mono (mod_at 0 (by omega) (some ⟨w.heap.size + 1, 0, none⟩) _ (slI_new _ _ _ _ _ (by simp) rfl)) ?_
  rintro e w1 ⟨rfl, hb1⟩
  have g := ((Blk.new w (ccells 0 0 zbl).toArray 24 _ rfl).alloc _).below hb1 (by simp; omega)
  have g2 := (((Below.refl w.heap.size w).alloc (Nat.le_refl _) _).alloc (by simp) _).trans (hb1.mono (by simp; omega))
  have G := hidd (And.intro g (And.intro (g.rowSame (ccells (pcN 0) (pcK 0) (pcB 0)).toArray) (below_setRow g2 (g := w.heap.size) (Nat.le_refl _) (ccells (pcN 0) (pcK 0) (pcB 0)).toArray)))
  clear g g2 hb1
  unfold pcV
  go_wp2_with (refine wpList_store_row rfl 24 (.tmp 2) (.tmp 12) rfl w.heap.size _ rfl rfl 24 _ G.out.1 HS.out HO.out HA.out ?_)
  exact ret_col (u := 3) rfl hb rfl G.out.2.1 rfl rfl ⟨rfl, G.out.2.2⟩
set_option maxRecDepth 100000 in
set_option maxHeartbeats 4000000 in
theorem named15_1 (w : World) : Calls Try.prog 15 #[.string { data := #[101, 105, 103, 104, 116] }] w fun e w' => e = .returned (.tuple #[pcV 1, .bool true]) ∧ Below w.heap.size w w' := by
  have Hz := zero26
  have hb := pcB_bys 1
  have HS := hidd (size_c26 (pcN 1) (pcK 1) hb)
  have HO := hidd (size_cc 0 0 (pcN 1) (pcK 1) zbl_bys hb)
  have HA := hidd (ccells_one (pcN 1) (pcK 1) (pcB 1))
  go_enter Try.func15, Try.ntmps15
  go_wp2_with fail
  refine Calls.mono (mod_at 1 (by omega) (some ⟨w.heap.size + 1, 0, none⟩) _ (slI_new _ _ _ _ _ (by simp) rfl)) ?_
  rintro e w1 ⟨rfl, hb1⟩
  have g := ((Blk.new w (ccells 0 0 zbl).toArray 24 _ rfl).alloc _).below hb1 (by simp; omega)
  have g2 := (((Below.refl w.heap.size w).alloc (Nat.le_refl _) _).alloc (by simp) _).trans (hb1.mono (by simp; omega))
  have G := hidd (And.intro g (And.intro (g.rowSame (ccells (pcN 1) (pcK 1) (pcB 1)).toArray) (below_setRow g2 (g := w.heap.size) (Nat.le_refl _) (ccells (pcN 1) (pcK 1) (pcB 1)).toArray)))
  clear g g2 hb1
  unfold pcV
  go_wp2_with (refine wpList_store_row rfl 24 (.tmp 2) (.tmp 16) rfl w.heap.size _ rfl rfl 24 _ G.out.1 HS.out HO.out HA.out ?_)
  exact ret_col (u := 3) rfl hb rfl G.out.2.1 rfl rfl ⟨rfl, G.out.2.2⟩
set_option maxRecDepth 100000 in
set_option maxHeartbeats 4000000 in
theorem named15_2 (w : World) : Calls Try.prog 15 #[.string { data := #[116, 104, 105, 114, 116, 101, 101, 110] }] w fun e w' => e = .returned (.tuple #[pcV 2, .bool true]) ∧ Below w.heap.size w w' := by
  have Hz := zero26
  have hb := pcB_bys 2
  have HS := hidd (size_c26 (pcN 2) (pcK 2) hb)
  have HO := hidd (size_cc 0 0 (pcN 2) (pcK 2) zbl_bys hb)
  have HA := hidd (ccells_one (pcN 2) (pcK 2) (pcB 2))
  go_enter Try.func15, Try.ntmps15
  go_wp2_with fail
  refine Calls.mono (mod_at 2 (by omega) (some ⟨w.heap.size + 1, 0, none⟩) _ (slI_new _ _ _ _ _ (by simp) rfl)) ?_
  rintro e w1 ⟨rfl, hb1⟩
  have g := ((Blk.new w (ccells 0 0 zbl).toArray 24 _ rfl).alloc _).below hb1 (by simp; omega)
  have g2 := (((Below.refl w.heap.size w).alloc (Nat.le_refl _) _).alloc (by simp) _).trans (hb1.mono (by simp; omega))
  have G := hidd (And.intro g (And.intro (g.rowSame (ccells (pcN 2) (pcK 2) (pcB 2)).toArray) (below_setRow g2 (g := w.heap.size) (Nat.le_refl _) (ccells (pcN 2) (pcK 2) (pcB 2)).toArray)))
  clear g g2 hb1
  unfold pcV
  go_wp2_with (refine wpList_store_row rfl 24 (.tmp 2) (.tmp 20) rfl w.heap.size _ rfl rfl 24 _ G.out.1 HS.out HO.out HA.out ?_)
  exact ret_col (u := 3) rfl hb rfl G.out.2.1 rfl rfl ⟨rfl, G.out.2.2⟩
set_option maxRecDepth 100000 in
set_option maxHeartbeats 4000000 in
theorem named15_3 (w : World) : Calls Try.prog 15 #[.string { data := #[115, 101, 118, 101, 110, 116, 101, 101, 110] }] w fun e w' => e = .returned (.tuple #[pcV 3, .bool true]) ∧ Below w.heap.size w w' := by
  have Hz := zero26
  have hb := pcB_bys 3
  have HS := hidd (size_c26 (pcN 3) (pcK 3) hb)
  have HO := hidd (size_cc 0 0 (pcN 3) (pcK 3) zbl_bys hb)
  have HA := hidd (ccells_one (pcN 3) (pcK 3) (pcB 3))
  go_enter Try.func15, Try.ntmps15
  go_wp2_with fail
  refine Calls.mono (mod_at 3 (by omega) (some ⟨w.heap.size + 1, 0, none⟩) _ (slI_new _ _ _ _ _ (by simp) rfl)) ?_
  rintro e w1 ⟨rfl, hb1⟩
  have g := ((Blk.new w (ccells 0 0 zbl).toArray 24 _ rfl).alloc _).below hb1 (by simp; omega)
  have g2 := (((Below.refl w.heap.size w).alloc (Nat.le_refl _) _).alloc (by simp) _).trans (hb1.mono (by simp; omega))
  have G := hidd (And.intro g (And.intro (g.rowSame (ccells (pcN 3) (pcK 3) (pcB 3)).toArray) (below_setRow g2 (g := w.heap.size) (Nat.le_refl _) (ccells (pcN 3) (pcK 3) (pcB 3)).toArray)))
  clear g g2 hb1
  unfold pcV
  go_wp2_with (refine wpList_store_row rfl 24 (.tmp 2) (.tmp 24) rfl w.heap.size _ rfl rfl 24 _ G.out.1 HS.out HO.out HA.out ?_)
  exact ret_col (u := 3) rfl hb rfl G.out.2.1 rfl rfl ⟨rfl, G.out.2.2⟩
set_option maxRecDepth 100000 in
set_option maxHeartbeats 4000000 in
theorem named15_4 (w : World) : Calls Try.prog 15 #[.string { data := #[115, 105, 120, 116, 101, 101, 110] }] w fun e w' => e = .returned (.tuple #[pcV 4, .bool true]) ∧ Below w.heap.size w w' := by
  have Hz := zero26
  have hset26 : ((ccells 0 0 zbl).set 0 (Value.int .i64 16)).set 1 (Value.int .i64 3) = ccells 16 3 zbl := rfl
  have HNS := hidd (size_c26 16 3 zbl_bys)
  have HNO := hidd (size_cc 0 0 16 3 zbl_bys zbl_bys)
  have HNA := hidd (ccells_one 16 3 zbl)
  have hb : Bys (paintB 16 sxR) := paintB_bys fun _ _ => sx_bd _
  have HPB := hidd hb
  have HPS := hidd (size_c26 16 3 hb)
  have HPO := hidd (size_cc 0 0 16 3 zbl_bys hb)
  have HPA := hidd (ccells_one 16 3 (paintB 16 sxR))
  clear hb
  go_enter Try.func15, Try.ntmps15
  go_wp2_with (first
    | (refine wpList_store_row rfl 24 (.tmp 5) (.tmp 28) rfl (w.heap.size + 1 + 1) _ rfl rfl 24 _ (Blk.new _ _ _ _ (by simp)) HNS.out HNO.out HNA.out ?_))
  go_loopw [6] (fun e wr => ∃ j : Nat, 1 ≤ j ∧ j ≤ 16 ∧ e = .int .i64 j ∧ RelSx w j 0 wr) (fun e _ => 16 - (intOf e).toNat)
  case atStart =>
    have hb0 := (((Below.refl w.heap.size w).alloc (Nat.le_refl _) (.cells (ccells 0 0 zbl).toArray 24)).alloc (by simp) (.cells (bcells kndL).toArray 5)).alloc (by simp; omega) (.cells (ccells 0 0 zbl).toArray 24)
    have hbe := below_setRow hb0 (g := w.heap.size + 1 + 1) (by omega) (ccells 16 3 zbl).toArray
    exact ⟨1, by omega, by omega, rfl, (((Blk.new _ _ _ _ rfl).alloc _).alloc _).rowOther _ _ (by omega), ((Blk.new _ _ _ _ (by simp)).alloc _).rowOther _ _ (by omega), (Blk.new _ _ _ _ (by simp)).rowSame _, hbe⟩
  case round =>
    obtain ⟨j, hj1, hj, rfl, HR1⟩ := hrel
    have HK := hidd HR1
    clear HR1
    by_cases hlt : j < 16
    · go_wp2_with fail
      rw [show decide ((j : Int) < 16) = true from decide_eq_true (by omega)]
      go_loopw [7] (fun e wr => ∃ i : Nat, i ≤ j ∧ e = .int .i64 i ∧ RelSx w j i wr) (fun e _ => j - (intOf e).toNat)
      case atStart => exact ⟨0, by omega, rfl, HK.out⟩
      case round =>
        obtain ⟨wq, rfl⟩ : ∃ wq, wq = wr := ⟨_, rfl⟩
        obtain ⟨i, hi, rfl, HR2⟩ := hrel
        have HK2 := hidd HR2
        clear HR2
        by_cases hil : i < j
        · obtain ⟨T, hT, hT16, hTv⟩ := knd_at hil hlt
          obtain ⟨v, hv⟩ : ∃ v : Nat, v = kndL.getD T 0 := ⟨_, rfl⟩
          rw [← hv] at hTv
          have h136 := eN_mono (show j + 1 ≤ 17 by omega)
          rw [eN, show eN 17 = 136 from rfl] at h136
          obtain ⟨E, hE⟩ : ∃ E, E = eN j + i := ⟨_, rfl⟩
          have HEX := hidd (show eix (i : Int) (j : Int) = (E : Int) by rw [eix_eN hil, hE])
          have hE136 : E < 136 := by omega
          have hEI : (E : Int) < 136 := by omega
          have hTI : (T : Int) < 16 := by omega
          have HST := hidd (fun (w' : World) (hw' : Below wq.heap.size wq w') => HK2.out.put hw' hE hE136 hTv)
          have HC := hidd (fun (w' : World) (hw' : Below wq.heap.size wq w') => (HK2.out.2.1.below hw' HK2.out.2.1.lt).cell (j := T) (v := .int .u8 (v : Int)) (by
            rw [hv]
            have h1 := bcells_get kndL T (by simpa [kndL] using hT16)
            simpa [List.getD, show T < kndL.length by simpa [kndL] using hT16] using h1))
          have HT := hidd hT
          clear hT hTv hv hE h136 hT16
          go_wp2_with fail
          refine wp_region_last_lit 11 (fun w' => Below wq.heap.size wq w') rfl rfl (by kernel_rfl) ((Below.refl _ _).drew) (by kernel_rfl) (by kernel_rfl) (by kernel_rfl) ?_
          simp only [List.take_succ_cons, List.take_zero, List.cons_append, List.nil_append, idle]
          refine qs rfl (fun KQ hKQ => ?_)
          apply Exists.intro
          refine ⟨fun w' hw' => ?_, ?_⟩
          · go_simp; exact rfl
          go_simp
          refine hKQ _ ?_
          clear hKQ KQ
          refine qs rfl (fun KQ hKQ => ?_)
          apply Exists.intro
          refine ⟨fun w' hw' => ?_, ?_⟩
          · go_simp; exact rfl
          go_simp
          refine hKQ _ ?_
          clear hKQ KQ
          refine qs rfl (fun KQ hKQ => ?_)
          apply Exists.intro
          refine ⟨fun w' hw' => ?_, ?_⟩
          · go_simp; exact (edge79 _ _ _ (by omega) (by omega) (by omega) (by omega)).mono fun _ _ h => ⟨by rw [h.1, HEX.out], by rw [← h.2]; exact hw'⟩
          go_simp
          refine hKQ _ ?_
          clear hKQ KQ
          refine qs rfl (fun KQ hKQ => ?_)
          apply Exists.intro
          refine ⟨fun w' hw' => ?_, ?_⟩
          · go_simp; exact rfl
          go_simp
          refine hKQ _ ?_
          clear hKQ KQ
          refine qs rfl (fun KQ hKQ => ?_)
          apply Exists.intro
          refine ⟨fun w' hw' => ?_, ?_⟩
          · go_simp; exact rfl
          go_simp
          refine hKQ _ ?_
          clear hKQ KQ
          refine qs rfl (fun KQ hKQ => ?_)
          apply Exists.intro
          refine ⟨fun w' hw' => ?_, ?_⟩
          · go_simp; exact rfl
          go_simp
          refine hKQ _ ?_
          clear hKQ KQ
          refine qs rfl (fun KQ hKQ => ?_)
          apply Exists.intro
          refine ⟨fun w' hw' => ?_, ?_⟩
          · go_simp; rw [HT.out]
          go_simp
          refine hKQ _ ?_
          clear hKQ KQ
          refine qs rfl (fun KQ hKQ => ?_)
          apply Exists.intro
          refine ⟨fun w' hw' => ?_, ?_⟩
          · go_simp; exact rfl
          go_simp
          refine hKQ _ ?_
          clear hKQ KQ
          refine qs rfl (fun KQ hKQ => ?_)
          apply Exists.intro
          refine ⟨fun w' hw' => ?_, ?_⟩
          · have e1 := HC.out w' hw'; go_simp; exact rfl
          go_simp
          refine hKQ _ ?_
          clear hKQ KQ
          refine qs rfl (fun KQ hKQ => ?_)
          apply Exists.intro
          refine ⟨fun w' hw' => ?_, ?_⟩
          · go_simp; exact rfl
          go_simp
          refine hKQ _ ?_
          clear hKQ KQ
          refine qs rfl (fun KQ hKQ => ?_)
          apply Exists.intro
          refine ⟨fun w' hw' => ?_, ?_⟩
          · go_simp; exact rfl
          go_simp
          refine hKQ _ ?_
          clear hKQ KQ
          refine qs rfl (fun KQ hKQ => ?_)
          apply Exists.intro
          refine ⟨fun w' hw' => ?_, ?_⟩
          · go_simp; exact rfl
          go_simp
          refine hKQ _ ?_
          clear hKQ KQ
          refine wpQuiet_nil ?_
          intro w' hw'
          obtain ⟨⟨old, hwE⟩, hfE, hrel'⟩ := HST.out w' hw'
          have K := hidd hrel'
          clear hrel'
          go_wp2
          go_roundw
          case rel => exact ⟨i + 1, by omega, by go_num, K.out⟩
          case measure => simp [intOf]; omega
        · have hij : i = j := by omega
          subst hij
          have K := hidd (show RelSx w (i + 1) 0 wq by have := HK2.out; unfold RelSx at this ⊢; rwa [ptB_row] at this)
          clear HK2
          go_wp2_with fail
          go_roundw
          case rel => exact ⟨i + 1, by omega, by omega, by go_num, K.out⟩
          case measure => simp [intOf]; omega
    · have hjN : j = 16 := by omega
      subst hjN
      obtain ⟨q1, q2, q3, q4⟩ := HK.out
      rw [ptB_done] at q3
      have R := hidd (And.intro q1 (And.intro q3 (And.intro (q1.rowSame (ccells 16 3 (paintB 16 sxR)).toArray) (below_setRow q4 (g := w.heap.size) (Nat.le_refl _) (ccells 16 3 (paintB 16 sxR)).toArray))))
      clear HK q1 q2 q3 q4
      go_wp2_with (first
        | (refine wpList_load_row rfl 24 (.tmp 5) rfl (w.heap.size + 1 + 1) rfl 24 _ (0,0) _ R.out.2.1 Try.underlying24 rfl HPS.out ?_)
        | (refine wpList_store_row rfl 24 (.tmp 2) (.tmp 49) rfl w.heap.size _ rfl rfl 24 _ R.out.1 HPS.out HPO.out HPA.out ?_))
      exact ret_col (u := 3) rfl HPB.out rfl R.out.2.2.1 rfl rfl ⟨rfl, R.out.2.2.2⟩
theorem toList_ne {k : Nat} {s : ByteArray} (h : pcT k ≠ s) : (s.toList == (pcT k).data.toList) = false := by
  rw [beq_eq_false_iff_ne, ByteArray.toList_eq]
  intro e
  have h2 := Array.toList_inj.1 e
  cases s
  cases hp : pcT k
  rw [hp] at h2 h
  simp at h2
  exact h (by rw [h2])
set_option maxRecDepth 100000 in
theorem named15_n (s : ByteArray) (h : ∀ i, i < 5 → pcT i ≠ s) (w : World) : Calls Try.prog 15 #[.string s] w fun e w' => e = .returned (nmOut s) ∧ Below w.heap.size w w' := by
  have Hz := zero26
  have HN := hidd (nmOut_none h)
  have h0 : (s.toList == [112, 101, 110, 116, 97, 103, 111, 110]) = false := toList_ne (h 0 (by omega))
  have h1 : (s.toList == [101, 105, 103, 104, 116]) = false := toList_ne (h 1 (by omega))
  have h2 : (s.toList == [116, 104, 105, 114, 116, 101, 101, 110]) = false := toList_ne (h 2 (by omega))
  have h3 : (s.toList == [115, 101, 118, 101, 110, 116, 101, 101, 110]) = false := toList_ne (h 3 (by omega))
  have h4 : (s.toList == [115, 105, 120, 116, 101, 101, 110]) = false := toList_ne (h 4 (by omega))
  clear h
  have HZ := hidd (size_c26 0 0 zbl_bys)
  have HO := hidd (ccells_one 0 0 zbl)
  have G := hidd (And.intro (Blk.new w (ccells 0 0 zbl).toArray 24 _ rfl) (And.intro ((Blk.new w (ccells 0 0 zbl).toArray 24 _ rfl).rowSame (ccells 0 0 zbl).toArray) (below_setRow ((Below.refl w.heap.size w).alloc (Nat.le_refl _) (.cells (ccells 0 0 zbl).toArray 24)) (g := w.heap.size) (Nat.le_refl _) (ccells 0 0 zbl).toArray)))
  go_enter Try.func15, Try.ntmps15
  go_wp2_with (first
    | (refine wpList_zero26 rfl rfl ?_)
    | (refine wpList_store_row rfl 24 (.tmp 2) (.tmp 50) rfl w.heap.size _ rfl rfl 24 _ G.out.1 HZ.out rfl HO.out ?_)
    | go_in)
  exact ret_col (u := 3) rfl zbl_bys rfl G.out.2.1 rfl (v := nmOut s) HN.out ⟨rfl, G.out.2.2⟩
theorem named15 (s : ByteArray) (w : World) : Calls Try.prog 15 #[.string s] w fun e w' => e = .returned (nmOut s) ∧ Below w.heap.size w w' := by
  by_cases h : ∃ i, i < 5 ∧ pcT i = s
  · obtain ⟨i, hi, rfl⟩ := h
    rw [nmOut_at i hi]
    have h5 : i = 0 ∨ i = 1 ∨ i = 2 ∨ i = 3 ∨ i = 4 := by omega
    rcases h5 with rfl | rfl | rfl | rfl | rfl
    · exact named15_0 w
    · exact named15_1 w
    · exact named15_2 w
    · exact named15_3 w
    · exact named15_4 w
  · exact named15_n s (fun i hi e => h ⟨i, hi, e⟩) w
end Go.Proofs.Ytoiamgmlehmomaa
