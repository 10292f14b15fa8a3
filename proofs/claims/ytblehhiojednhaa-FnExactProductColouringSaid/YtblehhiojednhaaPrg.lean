/- ProductColouring: its model where there is a product. -/
import Derived.Test.YtblehhiojednhaaPrs
namespace Go.Proofs.Ytblehhiojednhaa
set_option linter.unusedVariables false
set_option linter.unusedSimpArgs false
open Go Go.RowKit Go.Shelf
theorem wp_region_quiet_at {P : Program} {id : Nat} {Q : Exit → Act → World → Prop} {a : Act} {w : World} {l : List Oper} (C : World → Prop) (hm : P.follows .mixedOrders = true) (hB : Region.lexB .any l.toArray = true) (hC : C w.drew)
    (h : wpQuiet P l.toArray C (fun a' => ∀ w', C w' → Q .normal a' w') l a) : (Code.region id l.toArray true).wp P Q a w :=
  wp_region_quiet (C := C) hm hB hC (by simpa using h)
set_option maxRecDepth 100000 in
set_option maxHeartbeats 8000000 in
theorem spec4_good (n k : Int) (bs : List Nat) (hb : Bys bs) (m l : Int) (cs : List Nat) (hcb : Bys cs) (w : World) (hx : isCol n k bs = true) (hy : isCol m l cs = true) (h17 : n * m ≤ 17) (h4 : k + l ≤ 4) :
    Calls Try.prog 4 #[.agg (ccells n k bs).toArray, .agg (ccells m l cs).toArray] w fun e w' => e = .returned (prOut n k bs m l cs) ∧ Below w.heap.size w w' := by
  have HS := hidd (size_c26 n k hb)
  have HT := hidd (size_c26 m l hcb)
  have Hz := zero26
  have HO := hidd (prOut_good (prCode_0 hx hy ⟨h17, h4⟩))
  have HWX := hidd (show Blk (((w.alloc (.cells (ccells n k bs).toArray 25)).alloc (.cells (ccells m l cs).toArray 25)).alloc (.cells (ccells 0 0 zbl).toArray 25)) w.heap.size (ccells n k bs).toArray 25 ∧ Blk (((w.alloc (.cells (ccells n k bs).toArray 25)).alloc (.cells (ccells m l cs).toArray 25)).alloc (.cells (ccells 0 0 zbl).toArray 25)) (w.heap.size + 1) (ccells m l cs).toArray 25 ∧ Blk (((w.alloc (.cells (ccells n k bs).toArray 25)).alloc (.cells (ccells m l cs).toArray 25)).alloc (.cells (ccells 0 0 zbl).toArray 25)) (w.heap.size + 1 + 1) (ccells 0 0 zbl).toArray 25 ∧ Below w.heap.size w (((w.alloc (.cells (ccells n k bs).toArray 25)).alloc (.cells (ccells m l cs).toArray 25)).alloc (.cells (ccells 0 0 zbl).toArray 25)) from
    ⟨((Blk.new _ _ _ _ rfl).alloc _).alloc _, (Blk.new _ _ _ _ (by simp)).alloc _, Blk.new _ _ _ _ (by simp), (((Below.refl w.heap.size w).alloc (Nat.le_refl _) _).alloc (by simp) _).alloc (by simp; omega) _⟩)
  have b1 := isCol_bd hx
  have b2 := isCol_bd hy
  have hp0 : 1 ≤ n * m := Int.le_trans (show (1 : Int) ≤ 1 * 1 by omega) (Int.mul_le_mul b1.1 b2.1 (by omega) (by omega))
  obtain ⟨r, hr⟩ : ∃ r : Nat → Nat → Int, r = prR k m.toNat bs cs := ⟨_, rfl⟩
  have HRB := hidd (show ∀ lo hi, 0 ≤ r lo hi ∧ r lo hi < 256 by rw [hr]; exact prR_bd hb hcb hx hy)
  have HR := hidd hr
  obtain ⟨N, hN⟩ : ∃ N : Nat, (N : Int) = n * m := ⟨(n * m).toNat, by omega⟩
  have hN17 : N ≤ 17 := by omega
  have hN1 : 1 ≤ N := by omega
  have hQF := fun (i : Nat) (h : (i : Int) < n * m) => quo_facts (n := n) (m := m) (i := i) b1.1 b2.1 h
  have HQF := hidd hQF
  have HSM := hidd (fun e => col_small hcb hy e)
  have HX := hidd hx
  have HY := hidd hy
  have HNN := hidd (show (n * m).toNat = N by omega)
  have hset26 : ((ccells 0 0 zbl).set 0 (Value.int .i64 (n * m))).set 1 (Value.int .i64 (k + l)) = ccells (n * m) (k + l) zbl := rfl
  have HNS := hidd (size_c26 (n * m) (k + l) zbl_bys)
  have HNO := hidd (size_cc 0 0 (n * m) (k + l) zbl_bys zbl_bys)
  have HNA := hidd (ccells_one (n * m) (k + l) zbl)
  clear hx hy hr hQF
  go_enter Try.func4, Try.ntmps4
  go_wp2_with (refine wpList_load_row rfl 25 (.tmp 2) rfl w.heap.size rfl 25 _ (0,0) _ HWX.out.1 Try.underlying25 rfl HS.out ?_)
  refine (l01Is_any n k bs hb _).mono ?_
  rintro e w1 ⟨rfl, hb1⟩
  rw [HX.out]
  have G1 := hidd (And.intro (HWX.out.2.1.below hb1 HWX.out.2.1.lt) (And.intro (HWX.out.2.2.1.below hb1 HWX.out.2.2.1.lt) (And.intro (HWX.out.2.2.2.trans (hb1.mono HWX.out.2.2.2.size)) (HWX.out.1.below hb1 HWX.out.1.lt))))
  clear hb1
  go_wp2_with (refine wpList_load_row_want rfl 25 (.tmp 3) rfl (w.heap.size + 1) rfl 25 _ (0,0) _ G1.out.1 Try.underlying25 rfl HT.out ?_)
  refine (l01Is_any m l cs hcb _).mono ?_
  rintro e w2 ⟨rfl, hb1⟩
  rw [HY.out]
  have g1 := G1.out.2.1.below hb1 G1.out.2.1.lt
  have g2 := G1.out.2.2.1.trans (hb1.mono G1.out.2.2.1.size)
  have g3 := G1.out.2.2.2.below hb1 G1.out.2.2.2.lt
  have g4 := G1.out.1.below hb1 G1.out.1.lt
  have c0 := g3.cell (j := 0) (show _ = some (Value.int .i64 n) from rfl)
  have c1 := g3.cell (j := 1) (show _ = some (Value.int .i64 k) from rfl)
  have c2 := g4.cell (j := 0) (show _ = some (Value.int .i64 m) from rfl)
  have c3 := g4.cell (j := 1) (show _ = some (Value.int .i64 l) from rfl)
  have G := hidd (And.intro g3 (And.intro g4 (And.intro g1 g2)))
  have hgs : w.heap.size + 1 + 1 < w2.heap.size := g1.lt
  clear hb1 g1 g2 g3 g4
  go_wp2_with (first
    | (refine wpList_zero26 rfl rfl ?_)
    | (refine wpList_store_row rfl 25 (.tmp 7) (.tmp 47) rfl w2.heap.size _ rfl rfl 25 _ (Blk.new _ _ _ _ rfl) HNS.out HNO.out HNA.out ?_))
  clear c0 c1 c2 c3
  go_loopw [8] (fun e wr => ∃ j : Nat, 1 ≤ j ∧ j ≤ N ∧ e = .int .i64 j ∧ RelPr n k bs m l cs (n * m) (k + l) r w w2.heap.size j 0 wr) (fun e _ => N - (intOf e).toNat)
  case atStart =>
    obtain ⟨q1, q2, q3, q4⟩ := G.out
    exact ⟨1, by omega, hN1, rfl, (q1.alloc _).rowOther _ _ (by omega), (q2.alloc _).rowOther _ _ (by omega), (q3.alloc _).rowOther _ _ (by omega), (Blk.new _ _ _ _ rfl).rowSame _, below_setRow (q4.alloc (by omega) _) (by omega) _⟩
  case round =>
    obtain ⟨j, hj1, hj, rfl, HR1⟩ := hrel
    have w0 := HR1.2.2.2.1.cell (j := 0) (show _ = some (Value.int .i64 (n * m)) from rfl)
    have HK := hidd HR1
    clear HR1
    by_cases hlt : j < N
    · have hltI : (j : Int) < n * m := by omega
      go_wp2_with fail
      clear w0
      go_loopw [9] (fun e wr => ∃ i : Nat, i ≤ j ∧ e = .int .i64 i ∧ RelPr n k bs m l cs (n * m) (k + l) r w w2.heap.size j i wr) (fun e _ => j - (intOf e).toNat)
      case atStart => exact ⟨0, by omega, rfl, HK.out⟩
      case round =>
        obtain ⟨i, hi, rfl, HR2⟩ := hrel
        have HK2 := hidd HR2
        clear HR2
        by_cases hil : i < j
        · have hilI : (i : Int) < j := by omega
          obtain ⟨d1, d2, d3, d4⟩ := HQF.out i (by omega)
          obtain ⟨f1, f2, f3, f4⟩ := HQF.out j (by omega)
          have HRIJ := hidd (show r i j = if i / m.toNat ≠ j / m.toNat then colAt bs ((i / m.toNat : Nat) : Int) ((j / m.toNat : Nat) : Int) else k + colAt cs ((i % m.toNat : Nat) : Int) ((j % m.toNat : Nat) : Int) by rw [HR.out]; rfl)
          have HDM := hidd (show i / m.toNat = j / m.toNat → i % m.toNat ≠ j % m.toNat from fun h1 h2 => by
            have e1 := Nat.div_add_mod i m.toNat
            have e2 := Nat.div_add_mod j m.toNat
            rw [h1, h2] at e1
            omega)
          obtain ⟨qi, hqi⟩ : ∃ q : Nat, q = i / m.toNat := ⟨_, rfl⟩
          obtain ⟨qj, hqj⟩ : ∃ q : Nat, q = j / m.toNat := ⟨_, rfl⟩
          obtain ⟨ri, hri⟩ : ∃ q : Nat, q = i % m.toNat := ⟨_, rfl⟩
          obtain ⟨rj, hrj⟩ : ∃ q : Nat, q = j % m.toNat := ⟨_, rfl⟩
          rw [← hqi, ← hqj, ← hri, ← hrj] at HRIJ HDM
          rw [← hqi] at d1 d3
          rw [← hri] at d2 d4
          rw [← hqj] at f1 f3
          rw [← hrj] at f2 f4
          clear hqi hqj hri hrj
          have hm0 : ¬ m = 0 := by omega
          have hm1 : (m == 0) = false := by simpa using hm0
          have v1 := wrapI (n := (qi : Int)) (by omega)
          have v2 := wrapI (n := (qj : Int)) (by omega)
          have v3 := wrapI (n := (ri : Int)) (by omega)
          have v4 := wrapI (n := (rj : Int)) (by omega)
          have h136 := eN_mono (show j + 1 ≤ 17 by omega)
          rw [eN, show eN 17 = 136 from rfl] at h136
          obtain ⟨E, hE⟩ : ∃ E, E = eN j + i := ⟨_, rfl⟩
          have HEX := hidd (show eix (i : Int) (j : Int) = (E : Int) by rw [eix_eN hil, hE])
          have hE136 : E < 136 := by omega
          have hEI : (E : Int) < 136 := by omega
          have HBB := hidd (ptB_bys HRB.out j i)
          have HX2 := hidd hE
          have HST := hidd (show ∀ (v : Int), r i j = v → ∀ w', Below wr.heap.size wr w' → (∃ old, w'.cell? ⟨w2.heap.size, 2 + E, none⟩ = some old) ∧ w'.frozen? ⟨w2.heap.size, 2 + E, none⟩ = false ∧ RelPr n k bs m l cs (n * m) (k + l) r w w2.heap.size j (i + 1) (w'.setCell ⟨w2.heap.size, 2 + E, none⟩ (.int .u8 v)) from by
            intro v hv w' hw'
            obtain ⟨q1, q2, q3, q4, q5⟩ := HK2.out
            have q4' := q4.below hw' q4.lt
            have hvb := HRB.out i j
            rw [hv] at hvb
            obtain ⟨x, hx⟩ := Int.eq_ofNat_of_zero_le hvb.1
            have hbe := (q5.trans (hw'.mono q5.size)).setCell (p := ⟨w2.heap.size, 2 + E, none⟩) (by show w.heap.size ≤ w2.heap.size; omega) (.int .u8 v)
            refine ⟨⟨_, q4'.cell (HBB.out.cget (n * m) (k + l) hE136)⟩, q4'.fro _, (q1.below hw' q1.lt).other _ _ (by show w.heap.size ≠ w2.heap.size; omega), (q2.below hw' q2.lt).other _ _ (by show w.heap.size + 1 ≠ w2.heap.size; omega), (q3.below hw' q3.lt).other _ _ (by show w.heap.size + 1 + 1 ≠ w2.heap.size; omega), ?_, hbe⟩
            have s := q4'.same (2 + E) (.int .u8 v)
            rw [hx, ccells_set] at s
            rw [ptB_step, hv, hx, ← HX2.out, Int.toNat_natCast]
            exact s)
          clear hE h136
          by_cases hq : qi = qj
          · have HNE := hidd (show (ri : Int) ≠ rj by have := HDM.out hq; omega)
            have hqb : ((qi : Int) != (qj : Int)) = false := by simp [hq]
            obtain ⟨v, hv⟩ : ∃ v, v = colAt cs (ri : Int) (rj : Int) := ⟨_, rfl⟩
            have HV := hidd (show r i j = k + v by rw [HRIJ.out, if_neg (by omega), hv])
            have hvb := HRB.out i j
            rw [HV.out] at hvb
            have hv0 : 0 ≤ v ∧ v < 256 := by rw [hv]; exact colAt_bd hcb _ _
            have hwr : IntKind.u8.wrap (k + v) = k + v := u8_in hvb.1 hvb.2
            have hwk := wrapI (n := k + v) (by omega)
            have HVV := hidd hv.symm
            clear hv
            go_wp2_with fail
            refine wp_region_quiet_at (fun w' => Below wr.heap.size wr w') rfl (by kernel_rfl) ((Below.refl _ _).drew) ?_
            refine qs rfl (fun KQ hKQ => ?_)
            apply Exists.intro
            refine ⟨fun w' hw' => ?_, ?_⟩
            · go_simp; exact rfl
            go_simp
            refine hKQ _ ?_
            clear hKQ KQ
            refine qs rfl (fun KQ hKQ => ?_)
            apply Exists.intro
            refine ⟨fun w' hw' => ?_, ?_⟩
            · go_simp; exact rfl
            go_simp
            refine hKQ _ ?_
            clear hKQ KQ
            refine qs rfl (fun KQ hKQ => ?_)
            apply Exists.intro
            refine ⟨fun w' hw' => ?_, ?_⟩
            · go_simp; exact rfl
            go_simp
            refine hKQ _ ?_
            clear hKQ KQ
            refine qs rfl (fun KQ hKQ => ?_)
            apply Exists.intro
            refine ⟨fun w' hw' => ?_, ?_⟩
            · go_simp; exact rfl
            go_simp
            refine hKQ _ ?_
            clear hKQ KQ
            refine qs rfl (fun KQ hKQ => ?_)
            apply Exists.intro
            refine ⟨fun w' hw' => ?_, ?_⟩
            · go_simp; exact rfl
            go_simp
            refine hKQ _ ?_
            clear hKQ KQ
            refine qs rfl (fun KQ hKQ => ?_)
            apply Exists.intro
            refine ⟨fun w' hw' => ?_, ?_⟩
            · go_simp; exact rfl
            go_simp
            refine hKQ _ ?_
            clear hKQ KQ
            refine qs rfl (fun KQ hKQ => ?_)
            apply Exists.intro
            refine ⟨fun w' hw' => ?_, ?_⟩
            · go_simp; exact rfl
            go_simp
            refine hKQ _ ?_
            clear hKQ KQ
            refine wpQuiet_nil ?_
            intro w' hw'
            have HW2 := hidd hw'
            have HK3 := hidd (show Blk w' w.heap.size (ccells n k bs).toArray 25 ∧ Blk w' (w.heap.size + 1) (ccells m l cs).toArray 25 from ⟨HK2.out.1.below hw' HK2.out.1.lt, HK2.out.2.1.below hw' HK2.out.2.1.lt⟩)
            obtain ⟨wq, hwq⟩ : ∃ wq, wq = w' := ⟨_, rfl⟩
            rw [← hwq] at HW2 HK3 ⊢
            clear hw' hwq
            go_wp2_with fail
            refine wp_region_last_lit 17 (fun w' => Below wq.heap.size wq w') rfl rfl (by kernel_rfl) ((Below.refl _ _).drew) (by kernel_rfl) (by kernel_rfl) (by kernel_rfl) ?_
            simp only [List.take_succ_cons, List.take_zero, List.cons_append, List.nil_append, idle]
            refine qs rfl (fun KQ hKQ => ?_)
            apply Exists.intro
            refine ⟨fun w' hw' => ?_, ?_⟩
            · go_simp; exact rfl
            go_simp
            refine hKQ _ ?_
            clear hKQ KQ
            refine qs rfl (fun KQ hKQ => ?_)
            apply Exists.intro
            refine ⟨fun w' hw' => ?_, ?_⟩
            · go_simp; exact rfl
            go_simp
            refine hKQ _ ?_
            clear hKQ KQ
            refine qs rfl (fun KQ hKQ => ?_)
            apply Exists.intro
            refine ⟨fun w' hw' => ?_, ?_⟩
            · go_simp; exact (edge79 _ _ _ (by omega) (by omega) (by omega) (by omega)).mono fun _ _ h => ⟨by rw [h.1, HEX.out], by rw [← h.2]; exact hw'⟩
            go_simp
            refine hKQ _ ?_
            clear hKQ KQ
            refine qs rfl (fun KQ hKQ => ?_)
            apply Exists.intro
            refine ⟨fun w' hw' => ?_, ?_⟩
            · go_simp; exact rfl
            go_simp
            refine hKQ _ ?_
            clear hKQ KQ
            refine qs rfl (fun KQ hKQ => ?_)
            apply Exists.intro
            refine ⟨fun w' hw' => ?_, ?_⟩
            · have e1 := (HK3.out.1.below hw' HK3.out.1.lt).cell (j := 1) (show _ = some (Value.int .i64 k) from rfl); go_simp; exact rfl
            go_simp
            refine hKQ _ ?_
            clear hKQ KQ
            refine qs rfl (fun KQ hKQ => ?_)
            apply Exists.intro
            refine ⟨fun w' hw' => ?_, ?_⟩
            · exact quietRow 25 (.tmp 3) rfl (w.heap.size + 1) rfl 25 _ _ (HK3.out.2.below hw' HK3.out.2.lt) Try.underlying25 rfl HT.out
            go_simp
            refine hKQ _ ?_
            clear hKQ KQ
            refine qs rfl (fun KQ hKQ => ?_)
            apply Exists.intro
            refine ⟨fun w' hw' => ?_, ?_⟩
            · go_simp; exact rfl
            go_simp
            refine hKQ _ ?_
            clear hKQ KQ
            refine qs rfl (fun KQ hKQ => ?_)
            apply Exists.intro
            refine ⟨fun w' hw' => ?_, ?_⟩
            · go_simp; exact rfl
            go_simp
            refine hKQ _ ?_
            clear hKQ KQ
            refine qs rfl (fun KQ hKQ => ?_)
            apply Exists.intro
            refine ⟨fun w' hw' => ?_, ?_⟩
            · go_simp; exact rfl
            go_simp
            refine hKQ _ ?_
            clear hKQ KQ
            refine qs rfl (fun KQ hKQ => ?_)
            apply Exists.intro
            refine ⟨fun w' hw' => ?_, ?_⟩
            · go_simp; exact rfl
            go_simp
            refine hKQ _ ?_
            clear hKQ KQ
            refine qs rfl (fun KQ hKQ => ?_)
            apply Exists.intro
            refine ⟨fun w' hw' => ?_, ?_⟩
            · go_simp; exact rfl
            go_simp
            refine hKQ _ ?_
            clear hKQ KQ
            refine qs rfl (fun KQ hKQ => ?_)
            apply Exists.intro
            refine ⟨fun w' hw' => ?_, ?_⟩
            · go_simp; exact rfl
            go_simp
            refine hKQ _ ?_
            clear hKQ KQ
            refine qs rfl (fun KQ hKQ => ?_)
            apply Exists.intro
            refine ⟨fun w' hw' => ?_, ?_⟩
            · go_simp; exact (at57 m l cs hcb m (ri : Int) (rj : Int) _ b2.2.1 (by omega) d4 (by omega) f4 HNE.out).mono fun _ _ h => ⟨by rw [h.1, HVV.out], hw'.trans (h.2.mono hw'.size)⟩
            go_simp
            refine hKQ _ ?_
            clear hKQ KQ
            refine qs rfl (fun KQ hKQ => ?_)
            apply Exists.intro
            refine ⟨fun w' hw' => ?_, ?_⟩
            · go_simp; exact rfl
            go_simp
            refine hKQ _ ?_
            clear hKQ KQ
            refine qs rfl (fun KQ hKQ => ?_)
            apply Exists.intro
            refine ⟨fun w' hw' => ?_, ?_⟩
            · go_simp; exact rfl
            go_simp
            refine hKQ _ ?_
            clear hKQ KQ
            refine qs rfl (fun KQ hKQ => ?_)
            apply Exists.intro
            refine ⟨fun w' hw' => ?_, ?_⟩
            · go_simp; exact rfl
            go_simp
            refine hKQ _ ?_
            clear hKQ KQ
            refine qs rfl (fun KQ hKQ => ?_)
            apply Exists.intro
            refine ⟨fun w' hw' => ?_, ?_⟩
            · go_simp; exact rfl
            go_simp
            refine hKQ _ ?_
            clear hKQ KQ
            refine qs rfl (fun KQ hKQ => ?_)
            apply Exists.intro
            refine ⟨fun w' hw' => ?_, ?_⟩
            · go_simp; exact rfl
            go_simp
            refine hKQ _ ?_
            clear hKQ KQ
            refine wpQuiet_nil ?_
            intro w' hw'
            obtain ⟨⟨old, hwE⟩, hfE, hrel'⟩ := HST.out (k + v) HV.out w' (HW2.out.trans (hw'.mono HW2.out.size))
            have K := hidd hrel'
            clear hrel'
            go_wp2
            go_roundw
            case rel => exact ⟨i + 1, by omega, by go_num, K.out⟩
            case measure => simp [intOf]; omega
          · have HNE := hidd (show (qi : Int) ≠ qj by omega)
            have hqb : ((qi : Int) != (qj : Int)) = true := by simp; omega
            obtain ⟨v, hv⟩ : ∃ v, v = colAt bs (qi : Int) (qj : Int) := ⟨_, rfl⟩
            have HV := hidd (show r i j = v by rw [HRIJ.out, if_pos hq, hv])
            have hvb := HRB.out i j
            rw [HV.out] at hvb
            have hwr : IntKind.u8.wrap v = v := u8_in hvb.1 hvb.2
            have HVV := hidd hv.symm
            clear hv
            go_wp2_with fail
            refine wp_region_quiet_at (fun w' => Below wr.heap.size wr w') rfl (by kernel_rfl) ((Below.refl _ _).drew) ?_
            refine qs rfl (fun KQ hKQ => ?_)
            apply Exists.intro
            refine ⟨fun w' hw' => ?_, ?_⟩
            · go_simp; exact rfl
            go_simp
            refine hKQ _ ?_
            clear hKQ KQ
            refine qs rfl (fun KQ hKQ => ?_)
            apply Exists.intro
            refine ⟨fun w' hw' => ?_, ?_⟩
            · go_simp; exact rfl
            go_simp
            refine hKQ _ ?_
            clear hKQ KQ
            refine qs rfl (fun KQ hKQ => ?_)
            apply Exists.intro
            refine ⟨fun w' hw' => ?_, ?_⟩
            · go_simp; exact rfl
            go_simp
            refine hKQ _ ?_
            clear hKQ KQ
            refine qs rfl (fun KQ hKQ => ?_)
            apply Exists.intro
            refine ⟨fun w' hw' => ?_, ?_⟩
            · go_simp; exact rfl
            go_simp
            refine hKQ _ ?_
            clear hKQ KQ
            refine qs rfl (fun KQ hKQ => ?_)
            apply Exists.intro
            refine ⟨fun w' hw' => ?_, ?_⟩
            · go_simp; exact rfl
            go_simp
            refine hKQ _ ?_
            clear hKQ KQ
            refine qs rfl (fun KQ hKQ => ?_)
            apply Exists.intro
            refine ⟨fun w' hw' => ?_, ?_⟩
            · go_simp; exact rfl
            go_simp
            refine hKQ _ ?_
            clear hKQ KQ
            refine qs rfl (fun KQ hKQ => ?_)
            apply Exists.intro
            refine ⟨fun w' hw' => ?_, ?_⟩
            · go_simp; exact rfl
            go_simp
            refine hKQ _ ?_
            clear hKQ KQ
            refine wpQuiet_nil ?_
            intro w' hw'
            have HW2 := hidd hw'
            have HK3 := hidd (show Blk w' w.heap.size (ccells n k bs).toArray 25 ∧ Blk w' (w.heap.size + 1) (ccells m l cs).toArray 25 from ⟨HK2.out.1.below hw' HK2.out.1.lt, HK2.out.2.1.below hw' HK2.out.2.1.lt⟩)
            obtain ⟨wq, hwq⟩ : ∃ wq, wq = w' := ⟨_, rfl⟩
            rw [← hwq] at HW2 HK3 ⊢
            clear hw' hwq
            go_wp2_with fail
            refine wp_region_last_lit 14 (fun w' => Below wq.heap.size wq w') rfl rfl (by kernel_rfl) ((Below.refl _ _).drew) (by kernel_rfl) (by kernel_rfl) (by kernel_rfl) ?_
            simp only [List.take_succ_cons, List.take_zero, List.cons_append, List.nil_append, idle]
            refine qs rfl (fun KQ hKQ => ?_)
            apply Exists.intro
            refine ⟨fun w' hw' => ?_, ?_⟩
            · go_simp; exact rfl
            go_simp
            refine hKQ _ ?_
            clear hKQ KQ
            refine qs rfl (fun KQ hKQ => ?_)
            apply Exists.intro
            refine ⟨fun w' hw' => ?_, ?_⟩
            · go_simp; exact rfl
            go_simp
            refine hKQ _ ?_
            clear hKQ KQ
            refine qs rfl (fun KQ hKQ => ?_)
            apply Exists.intro
            refine ⟨fun w' hw' => ?_, ?_⟩
            · go_simp; exact (edge79 _ _ _ (by omega) (by omega) (by omega) (by omega)).mono fun _ _ h => ⟨by rw [h.1, HEX.out], by rw [← h.2]; exact hw'⟩
            go_simp
            refine hKQ _ ?_
            clear hKQ KQ
            refine qs rfl (fun KQ hKQ => ?_)
            apply Exists.intro
            refine ⟨fun w' hw' => ?_, ?_⟩
            · exact quietRow 25 (.tmp 2) rfl w.heap.size rfl 25 _ _ (HK3.out.1.below hw' HK3.out.1.lt) Try.underlying25 rfl HS.out
            go_simp
            refine hKQ _ ?_
            clear hKQ KQ
            refine qs rfl (fun KQ hKQ => ?_)
            apply Exists.intro
            refine ⟨fun w' hw' => ?_, ?_⟩
            · go_simp; exact rfl
            go_simp
            refine hKQ _ ?_
            clear hKQ KQ
            refine qs rfl (fun KQ hKQ => ?_)
            apply Exists.intro
            refine ⟨fun w' hw' => ?_, ?_⟩
            · go_simp; exact rfl
            go_simp
            refine hKQ _ ?_
            clear hKQ KQ
            refine qs rfl (fun KQ hKQ => ?_)
            apply Exists.intro
            refine ⟨fun w' hw' => ?_, ?_⟩
            · go_simp; exact rfl
            go_simp
            refine hKQ _ ?_
            clear hKQ KQ
            refine qs rfl (fun KQ hKQ => ?_)
            apply Exists.intro
            refine ⟨fun w' hw' => ?_, ?_⟩
            · go_simp; exact rfl
            go_simp
            refine hKQ _ ?_
            clear hKQ KQ
            refine qs rfl (fun KQ hKQ => ?_)
            apply Exists.intro
            refine ⟨fun w' hw' => ?_, ?_⟩
            · go_simp; exact rfl
            go_simp
            refine hKQ _ ?_
            clear hKQ KQ
            refine qs rfl (fun KQ hKQ => ?_)
            apply Exists.intro
            refine ⟨fun w' hw' => ?_, ?_⟩
            · go_simp; exact rfl
            go_simp
            refine hKQ _ ?_
            clear hKQ KQ
            refine qs rfl (fun KQ hKQ => ?_)
            apply Exists.intro
            refine ⟨fun w' hw' => ?_, ?_⟩
            · go_simp; exact (at57 n k bs hb n (qi : Int) (qj : Int) _ b1.2.1 (by omega) d3 (by omega) f3 HNE.out).mono fun _ _ h => ⟨by rw [h.1, HVV.out], hw'.trans (h.2.mono hw'.size)⟩
            go_simp
            refine hKQ _ ?_
            clear hKQ KQ
            refine qs rfl (fun KQ hKQ => ?_)
            apply Exists.intro
            refine ⟨fun w' hw' => ?_, ?_⟩
            · go_simp; exact rfl
            go_simp
            refine hKQ _ ?_
            clear hKQ KQ
            refine qs rfl (fun KQ hKQ => ?_)
            apply Exists.intro
            refine ⟨fun w' hw' => ?_, ?_⟩
            · go_simp; exact rfl
            go_simp
            refine hKQ _ ?_
            clear hKQ KQ
            refine qs rfl (fun KQ hKQ => ?_)
            apply Exists.intro
            refine ⟨fun w' hw' => ?_, ?_⟩
            · go_simp; exact rfl
            go_simp
            refine hKQ _ ?_
            clear hKQ KQ
            refine qs rfl (fun KQ hKQ => ?_)
            apply Exists.intro
            refine ⟨fun w' hw' => ?_, ?_⟩
            · go_simp; exact rfl
            go_simp
            refine hKQ _ ?_
            clear hKQ KQ
            refine wpQuiet_nil ?_
            intro w' hw'
            obtain ⟨⟨old, hwE⟩, hfE, hrel'⟩ := HST.out v HV.out w' (HW2.out.trans (hw'.mono HW2.out.size))
            have K := hidd hrel'
            clear hrel'
            go_wp2
            go_roundw
            case rel => exact ⟨i + 1, by omega, by go_num, K.out⟩
            case measure => simp [intOf]; omega
        · have hie : i = j := by omega
          subst hie
          have HN := hidd (ptB_row r i)
          go_wp2_with fail
          go_roundw
          case rel => exact ⟨i + 1, by omega, by omega, by go_num, by have := HK2.out; unfold RelPr at this ⊢; rw [← HN.out]; exact this⟩
          case measure => simp [intOf]; omega
    · have hje : j = N := by omega
      subst hje
      have HBB := hidd (ptB_bys HRB.out j 0)
      have HD := hidd (ptB_done r j)
      have HPS := hidd (size_c26 (n * m) (k + l) HBB.out)
      have HPO := hidd (size_cc 0 0 (n * m) (k + l) zbl_bys HBB.out)
      have HPA := hidd (ccells_one (n * m) (k + l) (ptB r j 0))
      have R := hidd (And.intro HK.out.2.2.1 (And.intro HK.out.2.2.2.1 (And.intro (HK.out.2.2.1.rowSame (ccells (n * m) (k + l) (ptB r j 0)).toArray) (below_setRow HK.out.2.2.2.2 (g := w.heap.size + 1 + 1) (by omega) (ccells (n * m) (k + l) (ptB r j 0)).toArray))))
      go_wp2_with (first
        | (refine wpList_load_row rfl 25 (.tmp 7) rfl w2.heap.size rfl 25 _ (0,0) _ R.out.2.1 Try.underlying25 rfl HPS.out ?_)
        | (refine wpList_store_row rfl 25 (.tmp 4) (.tmp 97) rfl (w.heap.size + 1 + 1) _ rfl rfl 25 _ R.out.1 HPS.out HPO.out HPA.out ?_))
      exact ret_col rfl HBB.out rfl R.out.2.2.1 rfl rfl ⟨by rw [HO.out, HNN.out, HD.out, HR.out]; rfl, R.out.2.2.2⟩
end Go.Proofs.Ytblehhiojednhaa
