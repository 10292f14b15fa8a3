/- Texts of colourings: l01Text. -/
import Derived.Test.YtilpfhiebbbbjaaDoorDec
import Derived.Test.YtilpfhiebbbbjaaDoorQs
namespace Go.Proofs.YtilpfhiebbbbjaaDoor
set_option linter.unusedVariables false
set_option linter.unusedSimpArgs false
open Go Go.RowKit
/-- The text with the points below b, and i edges of b. -/
def trT (n k : Int) (bs : List Nat) (b i : Nat) : List Int := (txF n k bs (eseq b) ++ if 1 < b then [44] else []) ++ (List.range i).map (fun m => ed bs (eN b + m, m, b))
theorem trT_0 (n k : Int) (bs : List Nat) (b : Nat) : trT n k bs b 0 = txF n k bs (eseq b) ++ if 1 < b then [44] else [] := by simp [trT]
theorem trT_step (n k : Int) (bs : List Nat) (b i : Nat) : trT n k bs b (i + 1) = trT n k bs b i ++ [ed bs (eN b + i, i, b)] := by simp [trT, List.range_succ]
theorem trT_row (n k : Int) (bs : List Nat) (b : Nat) : ∀ i, trT n k bs b (i + 1) = txF n k bs (eseq b ++ rowE b (i + 1))
  | 0 => by
    rw [trT_step, trT_0, rowE_succ, rowE, List.range_zero, List.map_nil, List.nil_append, txF_snoc]
    congr 2
    by_cases h : 1 < b
    · rw [if_pos h, cm_yes ⟨rfl, h⟩]
    · rw [if_neg h, cm_no (fun e => h e.2)]
  | i + 1 => by
    rw [trT_step, trT_row n k bs b i, rowE_succ b (i + 1), ← List.append_assoc, txF_snoc, cm_no (fun e => by have := e.1; simp at this), List.append_nil]
theorem trT_end {n k : Int} {bs : List Nat} {b : Nat} (hb : 1 ≤ b) : trT n k bs b b = txF n k bs (eseq (b + 1)) := by
  obtain ⟨i, rfl⟩ : ∃ i, b = i + 1 := ⟨b - 1, by omega⟩
  exact trT_row n k bs (i + 1) i
theorem trT_len (n k : Int) (bs : List Nat) {b i : Nat} (hb : b ≤ 17) (hi : i ≤ b) : (trT n k bs b i).length ≤ 400 := by
  have h1 := txF_len n k bs (eseq b)
  rw [eseq_len] at h1
  have h2 := eN_17 hb
  unfold trT
  rw [List.length_append, List.length_append, List.length_map, List.length_range]
  have h3 : (if 1 < b then [(44 : Int)] else []).length ≤ 1 := by split <;> simp
  omega
theorem eN_in {N b i : Nat} (h1 : b < N) (h2 : i < b) : eN b + i < eN N := by
  have h3 := eN_mono (show b + 1 ≤ N by omega)
  have h4 : eN (b + 1) = eN b + b := rfl
  omega
theorem col_e {N : Nat} {k : Int} {bs : List Nat} (hi : isCol (N : Int) k bs = true) (hb : Bys bs) (N2 : N ≤ 17) {b i : Nat} (h1 : b < N) (h2 : i < b) : bs.getD (eN b + i) 0 < 4 := by
  have h3 := eN_in h1 h2
  have h4 := eN_17 N2
  have h5 := col_lt hi (j := eN b + i) (by rw [← eN_edg]; omega) (by omega)
  have h6 := isCol_bd hi
  omega
def RelT8 (C : Array Value) (w wr : World) : Prop := Blk wr w.heap.size C 27 ∧ Below w.heap.size w wr
theorem RelT8.below {C : Array Value} {w wr w2 : World} (h : RelT8 C w wr) (hb : Below wr.heap.size wr w2) : RelT8 C w w2 := ⟨h.1.below hb h.1.lt, h.2.trans (hb.mono h.2.size)⟩
set_option maxRecDepth 100000 in
set_option maxHeartbeats 4000000 in
theorem text8 (N : Nat) (k : Int) (bs : List Nat) (hb : Bys bs) (w : World) (hi : isCol (N : Int) k bs = true) :
    Calls Tryd.prog 8 #[.agg (ccells (N : Int) k bs).toArray] w fun e w' => e = .returned (.string (strOfNums (txF (N : Int) k bs (eseq N)))) ∧ Below w.heap.size w w' := by
  obtain ⟨N1, N2, K1, K2⟩ := isCol_bd hi
  have hi2 := hidd hi
  have HSZ := hidd (size_c26 (N : Int) k hb)
  have HC0 := hidd (show (ccells (N : Int) k bs).toArray[0]? = some (.int .i64 (N : Int)) from rfl)
  have HC1 := hidd (show (ccells (N : Int) k bs).toArray[1]? = some (.int .i64 k) from rfl)
  have HD1 := hidd (fun W => dec13 (N : Int) (by omega) (by omega) W)
  have HD2 := hidd (fun W => dec13 k (by omega) (by omega) W)
  have l1 := dg_len (N : Int)
  have l2 := dg_len k
  have HH := hidd (show dg (N : Int) ++ [44] ++ dg k ++ [58] = txF (N : Int) k bs (eseq 1) from by rw [show eseq 1 = [] from rfl, txF_nil]; rfl)
  obtain ⟨A1, hA1⟩ : ∃ A1, A1 = dg (N : Int) := ⟨_, rfl⟩
  obtain ⟨A2, hA2⟩ : ∃ A2, A2 = dg k := ⟨_, rfl⟩
  rw [← hA1] at HD1 l1 HH
  rw [← hA2] at HD2 l2 HH
  obtain ⟨A3, hA3⟩ : ∃ A3, A3 = A1 ++ [44] := ⟨_, rfl⟩
  obtain ⟨A4, hA4⟩ : ∃ A4, A4 = A3 ++ A2 := ⟨_, rfl⟩
  obtain ⟨A5, hA5⟩ : ∃ A5, A5 = A4 ++ [58] := ⟨_, rfl⟩
  have e1 : strOfNums A1 ++ { data := #[44] } = strOfNums A3 := by rw [hA3]; exact str_app _ [44]
  have e2 : strOfNums A3 ++ strOfNums A2 = strOfNums A4 := by rw [hA4]; exact str_app _ _
  have e3 : strOfNums A4 ++ { data := #[58] } = strOfNums A5 := by rw [hA5]; exact str_app _ [58]
  have n3 : A3.length ≤ 3 := by rw [hA3, List.length_append]; simp; omega
  have n4 : A4.length ≤ 5 := by rw [hA4, List.length_append]; omega
  have s1 : ¬ 9223372036854775807 < (strOfNums A1).size + 1 := by rw [strOfNums_size]; omega
  have s2 : ¬ 9223372036854775807 < (strOfNums A3).size + (strOfNums A2).size := by rw [strOfNums_size, strOfNums_size]; omega
  have s3 : ¬ 9223372036854775807 < (strOfNums A4).size + 1 := by rw [strOfNums_size]; omega
  rw [← hA3, ← hA4, ← hA5] at HH
  clear hi hA1 hA2 l1 l2 n3 n4 hA3 hA4 hA5
  go_enter Tryd.func8, Tryd.ntmps8
  have H3 := hidd (show RelT8 (ccells (N : Int) k bs).toArray w (w.alloc (.cells (ccells (N : Int) k bs).toArray 27)) from ⟨Blk.new _ _ _ _ rfl, (Below.refl _ _).alloc (Nat.le_refl _) _⟩)
  go_wp2_with fail
  refine wp_region_quiet_at (fun w' => RelT8 (ccells (N : Int) k bs).toArray w w') rfl (by kernel_rfl) (H3.out.below ((Below.refl _ _).drew)) ?_
  refine qs rfl (fun KQ hKQ => ?_)
  apply Exists.intro
  refine ⟨fun w' hw' => ?_, ?_⟩
  · go_simp; exact rfl
  go_simp
  refine hKQ _ ?_
  clear hKQ KQ
  refine qs rfl (fun KQ hKQ => ?_)
  apply Exists.intro
  refine ⟨fun w' hw' => ?_, ?_⟩
  · (have hc := hw'.1.cell HC0.out; go_simp; exact rfl)
  go_simp
  refine hKQ _ ?_
  clear hKQ KQ
  refine qs rfl (fun KQ hKQ => ?_)
  apply Exists.intro
  refine ⟨fun w' hw' => ?_, ?_⟩
  · (go_simp; exact (HD1.out _).mono fun _ _ h => ⟨h.1, hw'.below h.2⟩)
  go_simp
  refine hKQ _ ?_
  clear hKQ KQ
  refine qs rfl (fun KQ hKQ => ?_)
  apply Exists.intro
  refine ⟨fun w' hw' => ?_, ?_⟩
  · go_simp; exact rfl
  go_simp
  refine hKQ _ ?_
  clear hKQ KQ
  refine qs rfl (fun KQ hKQ => ?_)
  apply Exists.intro
  refine ⟨fun w' hw' => ?_, ?_⟩
  · go_simp; exact rfl
  go_simp
  refine hKQ _ ?_
  clear hKQ KQ
  refine qs rfl (fun KQ hKQ => ?_)
  apply Exists.intro
  refine ⟨fun w' hw' => ?_, ?_⟩
  · (have hc := hw'.1.cell HC1.out; go_simp; exact rfl)
  go_simp
  refine hKQ _ ?_
  clear hKQ KQ
  refine qs rfl (fun KQ hKQ => ?_)
  apply Exists.intro
  refine ⟨fun w' hw' => ?_, ?_⟩
  · (go_simp; exact (HD2.out _).mono fun _ _ h => ⟨h.1, hw'.below h.2⟩)
  go_simp
  refine hKQ _ ?_
  clear hKQ KQ
  refine qs rfl (fun KQ hKQ => ?_)
  apply Exists.intro
  refine ⟨fun w' hw' => ?_, ?_⟩
  · go_simp; exact rfl
  go_simp
  refine hKQ _ ?_
  clear hKQ KQ
  refine qs rfl (fun KQ hKQ => ?_)
  apply Exists.intro
  refine ⟨fun w' hw' => ?_, ?_⟩
  · go_simp; exact rfl
  go_simp
  refine hKQ _ ?_
  clear hKQ KQ
  refine qs rfl (fun KQ hKQ => ?_)
  apply Exists.intro
  refine ⟨fun w' hw' => ?_, ?_⟩
  · go_simp; exact rfl
  go_simp
  refine hKQ _ ?_
  clear hKQ KQ
  refine wpQuiet_nil ?_
  intro w' hw'
  rw [HH.out]
  have K0 := hidd hw'
  clear e1 e2 e3 s1 s2 s3 hw'
  go_wp2_with fail
  go_loopw [3, 4] (fun v j wr => ∃ b : Nat, 1 ≤ b ∧ b ≤ N ∧ j = .int .i64 b ∧ v = .string (strOfNums (txF (N : Int) k bs (eseq b))) ∧ Hid (RelT8 (ccells (N : Int) k bs).toArray w wr)) (fun _ j _ => N - (intOf j).toNat)
  case atStart => exact ⟨1, by omega, by omega, rfl, rfl, K0⟩
  case round =>
    obtain ⟨b, hb1, hbN, rfl, rfl, HR⟩ := hrel
    have HB1 := hidd hb1
    have hc0 := HR.out.1.cell HC0.out
    by_cases hlt : b < N
    · rcases (show decide ((1 : Int) < (b : Int)) = true ∨ decide ((1 : Int) < (b : Int)) = false from by cases decide ((1 : Int) < (b : Int)) <;> simp) with hd | hd
      · have h1 : 1 < b := by have := of_decide_eq_true hd; omega
        have HT0 := hidd (show txF (N : Int) k bs (eseq b) ++ [44] = trT (N : Int) k bs b 0 from by rw [trT_0, if_pos h1])
        have hTl := txF_len (N : Int) k bs (eseq b)
        rw [eseq_len] at hTl
        have hT2 := eN_17 (show b ≤ 17 by omega)
        obtain ⟨T, hT⟩ : ∃ T, T = txF (N : Int) k bs (eseq b) := ⟨_, rfl⟩
        rw [← hT] at HT0 hTl ⊢
        have e1 : strOfNums T ++ { data := #[44] } = strOfNums (T ++ [44]) := str_app _ [44]
        have s1 : ¬ 9223372036854775807 < (strOfNums T).size + 1 := by rw [strOfNums_size]; omega
        clear hT hTl hT2 h1
        go_wp2_with fail
        go_loopw [3, 5] (fun v e wr => ∃ i : Nat, i ≤ b ∧ e = .int .i64 i ∧ v = .string (strOfNums (trT (N : Int) k bs b i)) ∧ Hid (RelT8 (ccells (N : Int) k bs).toArray w wr)) (fun _ e _ => b - (intOf e).toNat)
        case atStart => exact ⟨0, by omega, rfl, by rw [HT0.out], HR⟩
        case round =>
          obtain ⟨i, hi, rfl, rfl, HR2⟩ := hrel
          by_cases hlt2 : i < b
          · have HA := hidd (fun W => at57 (N : Int) k bs hb (N : Int) (i : Int) (b : Int) W (by omega) (by omega) (by omega) (by omega) (by omega) (by omega))
            rw [colAt_eN bs hlt2] at HA
            have hx := col_e hi2.out hb (by omega) hlt hlt2
            have HT := hidd (trT_step (N : Int) k bs b i)
            have hTl := trT_len (N : Int) k bs (b := b) (i := i) (by omega) (by omega)
            have HR2' := hidd HR2.out.1
            obtain ⟨T, hT⟩ : ∃ T, T = trT (N : Int) k bs b i := ⟨_, rfl⟩
            rw [← hT] at HT hTl ⊢
            unfold ed at HT
            dsimp only at HT
            obtain ⟨x, hxe⟩ : ∃ x : Nat, x = bs.getD (eN b + i) 0 := ⟨_, rfl⟩
            rw [← hxe] at HA HT hx
            have HD := hidd (fun W => dec13a (x : Int) (by omega) (by omega) W)
            have hsz : ¬ 9223372036854775807 < (strOfNums T).size + (strOfNums [48 + (x : Int)]).size := by rw [strOfNums_size, strOfNums_size]; simp; omega
            have hss : strOfNums T ++ strOfNums [48 + (x : Int)] = strOfNums (T ++ [48 + (x : Int)]) := str_app _ _
            clear hT hxe hTl hx
            go_wp2_with (refine wpList_load_row rfl 27 (.tmp 1) rfl w.heap.size rfl 27 _ (0,0) _ HR2'.out Tryd.underlying27 rfl HSZ.out ?_)
            refine (HA.out _).mono ?_
            rintro e w3 ⟨rfl, hb3⟩
            go_wp2_with fail
            refine (HD.out _).mono ?_
            rintro e w4 ⟨rfl, hb4⟩
            have K4 := hidd (show RelT8 (ccells (N : Int) k bs).toArray w w4 from (HR2.out.below hb3).below hb4)
            clear hb3 hb4
            go_wp2_with fail
            go_roundw
            case rel => exact ⟨i + 1, by omega, by go_num, by rw [HT.out], K4⟩
            case measure => simp [intOf]; omega
          · have hib : i = b := by omega
            subst hib
            go_wp2_with fail
            go_roundw
            case rel => exact ⟨i + 1, by omega, by omega, by go_num, by rw [trT_end HB1.out], HR2⟩
            case measure => simp [intOf]; omega
      · have h1 : ¬ 1 < b := by have := of_decide_eq_false hd; omega
        have HT0 := hidd (show txF (N : Int) k bs (eseq b) = trT (N : Int) k bs b 0 from by rw [trT_0, if_neg h1, List.append_nil])
        clear h1
        go_wp2_with fail
        go_loopw [3, 5] (fun v e wr => ∃ i : Nat, i ≤ b ∧ e = .int .i64 i ∧ v = .string (strOfNums (trT (N : Int) k bs b i)) ∧ Hid (RelT8 (ccells (N : Int) k bs).toArray w wr)) (fun _ e _ => b - (intOf e).toNat)
        case atStart => exact ⟨0, by omega, rfl, by rw [HT0.out], HR⟩
        case round =>
          obtain ⟨i, hi, rfl, rfl, HR2⟩ := hrel
          by_cases hlt2 : i < b
          · have HA := hidd (fun W => at57 (N : Int) k bs hb (N : Int) (i : Int) (b : Int) W (by omega) (by omega) (by omega) (by omega) (by omega) (by omega))
            rw [colAt_eN bs hlt2] at HA
            have hx := col_e hi2.out hb (by omega) hlt hlt2
            have HT := hidd (trT_step (N : Int) k bs b i)
            have hTl := trT_len (N : Int) k bs (b := b) (i := i) (by omega) (by omega)
            have HR2' := hidd HR2.out.1
            obtain ⟨T, hT⟩ : ∃ T, T = trT (N : Int) k bs b i := ⟨_, rfl⟩
            rw [← hT] at HT hTl ⊢
            unfold ed at HT
            dsimp only at HT
            obtain ⟨x, hxe⟩ : ∃ x : Nat, x = bs.getD (eN b + i) 0 := ⟨_, rfl⟩
            rw [← hxe] at HA HT hx
            have HD := hidd (fun W => dec13a (x : Int) (by omega) (by omega) W)
            have hsz : ¬ 9223372036854775807 < (strOfNums T).size + (strOfNums [48 + (x : Int)]).size := by rw [strOfNums_size, strOfNums_size]; simp; omega
            have hss : strOfNums T ++ strOfNums [48 + (x : Int)] = strOfNums (T ++ [48 + (x : Int)]) := str_app _ _
            clear hT hxe hTl hx
            go_wp2_with (refine wpList_load_row rfl 27 (.tmp 1) rfl w.heap.size rfl 27 _ (0,0) _ HR2'.out Tryd.underlying27 rfl HSZ.out ?_)
            refine (HA.out _).mono ?_
            rintro e w3 ⟨rfl, hb3⟩
            go_wp2_with fail
            refine (HD.out _).mono ?_
            rintro e w4 ⟨rfl, hb4⟩
            have K4 := hidd (show RelT8 (ccells (N : Int) k bs).toArray w w4 from (HR2.out.below hb3).below hb4)
            clear hb3 hb4
            go_wp2_with fail
            go_roundw
            case rel => exact ⟨i + 1, by omega, by go_num, by rw [HT.out], K4⟩
            case measure => simp [intOf]; omega
          · have hib : i = b := by omega
            subst hib
            go_wp2_with fail
            go_roundw
            case rel => exact ⟨i + 1, by omega, by omega, by go_num, by rw [trT_end HB1.out], HR2⟩
            case measure => simp [intOf]; omega
    · have hbN2 : b = N := by omega
      subst hbN2
      go_wp2_with fail
      go_ret
      exact ⟨rfl, HR.out.2⟩
end Go.Proofs.YtilpfhiebbbbjaaDoor
