/- OrderOf: the model. -/
import Derived.Test.YtmeihpakbhfipaaDoorOrq
import Derived.Test.YtmeihpakbhfipaaDoorClp
namespace Go.Proofs.YtmeihpakbhfipaaDoor
set_option linter.unusedVariables false
set_option linter.unusedSimpArgs false
open Go Go.RowKit Go.Shelf
theorem empty_at (w : World) {B : Nat} (hB : B ≤ w.heap.size) : (w.alloc (.cells #[] 2)).ownsRow B 2 1 (.slice (some ⟨w.heap.size, 0, none⟩) 0 0) 0 (icells []) :=
  ⟨rfl, .inr ⟨w.heap.size, 0, #[], rfl, hB, Blk.new _ _ _ _ rfl, Nat.le_refl _, by simp [maxLen], rfl, rfl⟩⟩
/-- The colouring in its box, the first i numbers. -/
def RelOm (C : Array Value) (f : Nat → Int) (w : World) (i : Nat) (v : Value) (wr : World) : Prop :=
  wr.ownsRow (w.heap.size + 1) 2 1 v i (icells (fl i f)) ∧ Blk wr w.heap.size C 28 ∧ Below w.heap.size w wr
theorem RelOm.more {C : Array Value} {f : Nat → Int} {w : World} {i : Nat} {v : Value} {wr w2 : World} (h : RelOm C f w i v wr) (hb : Below wr.heap.size wr w2) : RelOm C f w i v w2 :=
  ⟨own_below h.1 hb (Nat.le_refl _), h.2.1.below hb h.2.1.lt, h.2.2.trans (hb.mono h.2.2.size)⟩
theorem RelOm.snoc {C : Array Value} {f : Nat → Int} {w : World} {i : Nat} {v v' : Value} {wr w2 : World} {o : Obj} {x : Int} (h : RelOm C f w i v wr) (hx : x = f i) (hown : w2.ownsRow (w.heap.size + 1) 2 1 v' (i + 1) (icells (fl i f) ++ [.int .i64 x]))
    (hg : (wr.alloc o).grownBy w2 v.ownBlock) : RelOm C f w (i + 1) v' w2 := by
  have hlt := h.2.1.lt
  have hb : Below (w.heap.size + 1) wr w2 := grown_step h.1 hg (by omega)
  refine ⟨?_, h.2.1.below hb (by omega), h.2.2.trans (hb.mono (by omega))⟩
  rw [fl_snoc, icells_app, ← hx]
  exact hown
set_option maxRecDepth 100000 in
set_option maxHeartbeats 4000000 in
theorem spec16 (n k : Int) (bs : List Nat) (hb : Bys bs) (w : World) :
    Calls Tryd.prog 16 #[.agg (ccells n k bs).toArray] w (LOut w (orL n k bs) (orC n k bs)) := by
  have HS := hidd (size_c26 n k hb)
  have HC1 := hidd (show (ccells n k bs).toArray[1]? = some (.int .i64 k) from rfl)
  have HC0 := hidd (show (ccells n k bs).toArray[0]? = some (.int .i64 n) from rfl)
  have HA := hidd (show RelKl (ccells n k bs).toArray w (w.alloc (.cells (ccells n k bs).toArray 28)) from ⟨Blk.new w (ccells n k bs).toArray 28 _ rfl, (Below.refl w.heap.size w).alloc (Nat.le_refl _) _⟩)
  cases hi : isCol n k bs with
  | false =>
    obtain ⟨e1, e2⟩ := or_bad (n := n) (k := k) (bs := bs) (m := 1) (by unfold orC; rw [hi]; rfl) (by omega)
    have HE := hidd (And.intro e1 e2)
    have HI := hidd hi
    clear hi e1 e2
    go_enter Tryd.func16, Tryd.ntmps16
    go_wp2_with (refine wpList_load_row rfl 28 (.tmp 1) rfl w.heap.size rfl 28 _ (0,0) _ HA.out.1 Tryd.underlying28 rfl HS.out ?_)
    refine (l01Is_any n k bs hb _).mono ?_
    rintro e w1 ⟨rfl, hb1⟩
    rw [HI.out]
    have G1 := hidd (HA.out.more hb1)
    clear hb1
    go_wp2_with fail
    go_ret2
    rw [HE.out.1, HE.out.2]
    exact lout_nil rfl G1.out.2
  | true =>
    have HI := hidd hi
    obtain ⟨n1, n2, k1, k2⟩ := isCol_bd hi
    by_cases hk : k = 2
    · obtain ⟨N, rfl⟩ := Int.eq_ofNat_of_zero_le (show 0 ≤ n by omega)
      have hd : (k != 2) = false := by simp [hk]
      have N2 : N ≤ 17 := by omega
      have HCD := hidd (show orC (N : Int) k bs = if clB bs 0 N = true ∧ clB bs 1 N = true then 0 else 5 by unfold orC; rw [if_pos hi, Int.toNat_natCast]; simp [hk])
      clear hi hk
      cases ha : clB bs 0 N with
      | false =>
        obtain ⟨e1, e2⟩ := or_bad (n := (N : Int)) (k := k) (bs := bs) (m := 5) (by rw [HCD.out]; simp [ha]) (by omega)
        have HE := hidd (And.intro e1 e2)
        have HA0 := hidd ha
        clear ha e1 e2
        go_enter Tryd.func16, Tryd.ntmps16
        go_wp2_with (refine wpList_load_row rfl 28 (.tmp 1) rfl w.heap.size rfl 28 _ (0,0) _ HA.out.1 Tryd.underlying28 rfl HS.out ?_)
        refine (l01Is_any (N : Int) k bs hb _).mono ?_
        rintro e w1 ⟨rfl, hb1⟩
        rw [HI.out]
        have G1 := hidd (HA.out.more hb1)
        have c1 := G1.out.1.cell HC1.out
        clear hb1
        go_wp2_with (refine wpList_load_row_want rfl 28 (.tmp 1) rfl w.heap.size rfl 28 _ (0,0) _ G1.out.1 Tryd.underlying28 rfl HS.out ?_)
        refine (closed27 N k 0 bs hb _ N2).mono ?_
        rintro e w2 ⟨rfl, hb2⟩
        rw [HA0.out]
        have G2 := hidd (G1.out.more hb2)
        clear hb2 c1
        go_wp2_with fail
        go_ret2
        rw [HE.out.1, HE.out.2]
        exact lout_nil rfl G2.out.2
      | true =>
        have HA0 := hidd ha
        cases hc : clB bs 1 N with
        | false =>
          obtain ⟨e1, e2⟩ := or_bad (n := (N : Int)) (k := k) (bs := bs) (m := 5) (by rw [HCD.out]; simp [hc]) (by omega)
          have HE := hidd (And.intro e1 e2)
          have HA1 := hidd hc
          clear ha hc e1 e2
          go_enter Tryd.func16, Tryd.ntmps16
          go_wp2_with (refine wpList_load_row rfl 28 (.tmp 1) rfl w.heap.size rfl 28 _ (0,0) _ HA.out.1 Tryd.underlying28 rfl HS.out ?_)
          refine (l01Is_any (N : Int) k bs hb _).mono ?_
          rintro e w1 ⟨rfl, hb1⟩
          rw [HI.out]
          have G1 := hidd (HA.out.more hb1)
          have c1 := G1.out.1.cell HC1.out
          clear hb1
          go_wp2_with (refine wpList_load_row_want rfl 28 (.tmp 1) rfl w.heap.size rfl 28 _ (0,0) _ G1.out.1 Tryd.underlying28 rfl HS.out ?_)
          refine (closed27 N k 0 bs hb _ N2).mono ?_
          rintro e w2 ⟨rfl, hb2⟩
          rw [HA0.out]
          have G2 := hidd (G1.out.more hb2)
          clear hb2 c1
          go_wp2_with (refine wpList_load_row_want rfl 28 (.tmp 1) rfl w.heap.size rfl 28 _ (0,0) _ G2.out.1 Tryd.underlying28 rfl HS.out ?_)
          refine (closed27 N k 1 bs hb _ N2).mono ?_
          rintro e w3 ⟨rfl, hb2⟩
          rw [HA1.out]
          have G3 := hidd (G2.out.more hb2)
          have c3 := G3.out.1.cell HC0.out
          clear hb2
          go_wp2_with fail
          go_ret2
          rw [HE.out.1, HE.out.2]
          exact lout_nil rfl G3.out.2
        | true =>
          have HA1 := hidd hc
          have e2 : orC (N : Int) k bs = 0 := by rw [HCD.out]; simp [ha, hc]
          have e1 : orL (N : Int) k bs = ordL bs N := by unfold orL; rw [if_pos e2, Int.toNat_natCast]
          have HE := hidd (And.intro e1 e2)
          obtain ⟨t0, hi2, hz0, hz1, hz3⟩ := info_parts info2
          have HIF := hidd (And.intro hi2 (And.intro hz0 (And.intro hz1 hz3)))
          have HAT := hidd (fun (i j : Nat) (hi : i < N) (hj : j < N) (hij : i ≠ j) W => at57 (N : Int) k bs hb (N : Int) (i : Int) (j : Int) W (by omega) (by omega) (by omega) (by omega) (by omega) (by omega))
          obtain ⟨f, hf⟩ : ∃ f : Nat → Int, f = fun i => ((cnt (ordP bs i) N : Nat) : Int) := ⟨_, rfl⟩
          have HF := hidd hf
          clear ha hc e1 e2 hi2 hz0 hz1 hz3 hf
          go_enter Tryd.func16, Tryd.ntmps16
          go_wp2_with (refine wpList_load_row rfl 28 (.tmp 1) rfl w.heap.size rfl 28 _ (0,0) _ HA.out.1 Tryd.underlying28 rfl HS.out ?_)
          refine (l01Is_any (N : Int) k bs hb _).mono ?_
          rintro e w1 ⟨rfl, hb1⟩
          rw [HI.out]
          have G1 := hidd (HA.out.more hb1)
          have c1 := G1.out.1.cell HC1.out
          clear hb1
          go_wp2_with (refine wpList_load_row_want rfl 28 (.tmp 1) rfl w.heap.size rfl 28 _ (0,0) _ G1.out.1 Tryd.underlying28 rfl HS.out ?_)
          refine (closed27 N k 0 bs hb _ N2).mono ?_
          rintro e w2 ⟨rfl, hb2⟩
          rw [HA0.out]
          have G2 := hidd (G1.out.more hb2)
          clear hb2 c1
          go_wp2_with (refine wpList_load_row_want rfl 28 (.tmp 1) rfl w.heap.size rfl 28 _ (0,0) _ G2.out.1 Tryd.underlying28 rfl HS.out ?_)
          refine (closed27 N k 1 bs hb _ N2).mono ?_
          rintro e w3 ⟨rfl, hb2⟩
          rw [HA1.out]
          have G3 := hidd (G2.out.more hb2)
          have c3 := G3.out.1.cell HC0.out
          clear hb2
          have HR0 := hidd (show RelOm (ccells (N : Int) k bs).toArray f w 0 (.slice (some ⟨w3.heap.size, 0, none⟩) 0 0) (w3.alloc (.cells #[] 2)) from
            ⟨empty_at w3 (by have := G3.out.1.lt; omega), G3.out.1.alloc _, G3.out.2.alloc (by have := G3.out.2.size; omega) _⟩)
          go_wp2_with fail
          go_loopw [4, 5] (fun v e wr => ∃ i : Nat, i ≤ N ∧ e = .int .i64 (i : Int) ∧ RelOm (ccells (N : Int) k bs).toArray f w i v wr) (fun _ e _ => N - (intOf e).toNat)
          case atStart => exact ⟨0, Nat.zero_le _, rfl, HR0.out⟩
          case round =>
            obtain ⟨i, hi, rfl, HR⟩ := hrel
            have HK := hidd HR
            have c0 := HR.2.1.cell HC0.out
            clear HR
            by_cases hlt : i < N
            · go_wp2_with fail
              clear c0
              go_loopw [6, 7] (fun o e wr => ∃ j : Nat, j ≤ N ∧ e = .int .i64 (j : Int) ∧ o = .int .i64 (cnt (ordP bs i) j : Nat) ∧ RelOm (ccells (N : Int) k bs).toArray f w i u4 wr) (fun _ e _ => N - (intOf e).toNat)
              case atStart => exact ⟨0, Nat.zero_le _, rfl, rfl, HK.out⟩
              case round =>
                obtain ⟨j, hj, rfl, rfl, HR⟩ := hrel
                have HK2 := hidd HR
                have c0 := HR.2.1.cell HC0.out
                clear HR
                have hcl := cnt_le (ordP bs i) j
                have HCS := hidd (show cnt (ordP bs i) (j + 1) = cnt (ordP bs i) j + if ordP bs i j = true then 1 else 0 from rfl)
                by_cases hjl : j < N
                · by_cases h1 : j < i
                  · have A1 := hidd (HAT.out j i (by omega) (by omega) (by omega))
                    have HO := hidd (show ordP bs i j = decide (colAt bs (j : Int) (i : Int) = 0) by unfold ordP; simp [h1, show ¬ i < j by omega])
                    generalize colAt bs (j : Int) (i : Int) = x at A1 HO
                    have hji : ¬ i < j := by omega
                    by_cases hx : x = 0
                    · have ex : (x == 0) = true := by simpa using hx
                      have HN := hidd (show cnt (ordP bs i) (j + 1) = cnt (ordP bs i) j + 1 by rw [HCS.out, HO.out, if_pos (by simpa using hx)])
                      clear hx
                      go_wp2_with (refine wpList_load_row_want rfl 28 (.tmp 1) rfl w.heap.size rfl 28 _ (0,0) _ HK2.out.2.1 Tryd.underlying28 rfl HS.out ?_)
                      refine (A1.out _).mono ?_
                      rintro e w5 ⟨rfl, hb3⟩
                      have G5 := hidd (HK2.out.more hb3)
                      clear hb3 c0
                      go_wp2_with fail
                      go_roundw
                      case rel => exact ⟨j + 1, by omega, by go_num, by rw [HN.out]; go_num, G5.out⟩
                      case measure => simp [intOf]; omega
                    · have ex : (x == 0) = false := by rw [beq_eq_false_iff_ne]; exact hx
                      have HN := hidd (show cnt (ordP bs i) (j + 1) = cnt (ordP bs i) j by rw [HCS.out, HO.out, if_neg (by simpa using hx)]; omega)
                      clear hx
                      go_wp2_with (refine wpList_load_row_want rfl 28 (.tmp 1) rfl w.heap.size rfl 28 _ (0,0) _ HK2.out.2.1 Tryd.underlying28 rfl HS.out ?_)
                      refine (A1.out _).mono ?_
                      rintro e w5 ⟨rfl, hb3⟩
                      have G5 := hidd (HK2.out.more hb3)
                      clear hb3 c0
                      go_wp2_with fail
                      go_roundw
                      case rel => exact ⟨j + 1, by omega, by go_num, by rw [HN.out], G5.out⟩
                      case measure => simp [intOf]; omega
                  · by_cases h2 : i < j
                    · have A1 := hidd (HAT.out i j (by omega) (by omega) (by omega))
                      have HO := hidd (show ordP bs i j = decide (colAt bs (i : Int) (j : Int) = 1) by unfold ordP; simp [h2, h1])
                      generalize colAt bs (i : Int) (j : Int) = x at A1 HO
                      by_cases hx : x = 1
                      · have ex : (x == 1) = true := by simpa using hx
                        have HN := hidd (show cnt (ordP bs i) (j + 1) = cnt (ordP bs i) j + 1 by rw [HCS.out, HO.out, if_pos (by simpa using hx)])
                        clear hx
                        go_wp2_with (refine wpList_load_row_want rfl 28 (.tmp 1) rfl w.heap.size rfl 28 _ (0,0) _ HK2.out.2.1 Tryd.underlying28 rfl HS.out ?_)
                        refine (A1.out _).mono ?_
                        rintro e w5 ⟨rfl, hb3⟩
                        have G5 := hidd (HK2.out.more hb3)
                        clear hb3 c0
                        go_wp2_with fail
                        go_roundw
                        case rel => exact ⟨j + 1, by omega, by go_num, by rw [HN.out]; go_num, G5.out⟩
                        case measure => simp [intOf]; omega
                      · have ex : (x == 1) = false := by rw [beq_eq_false_iff_ne]; exact hx
                        have HN := hidd (show cnt (ordP bs i) (j + 1) = cnt (ordP bs i) j by rw [HCS.out, HO.out, if_neg (by simpa using hx)]; omega)
                        clear hx
                        go_wp2_with (refine wpList_load_row_want rfl 28 (.tmp 1) rfl w.heap.size rfl 28 _ (0,0) _ HK2.out.2.1 Tryd.underlying28 rfl HS.out ?_)
                        refine (A1.out _).mono ?_
                        rintro e w5 ⟨rfl, hb3⟩
                        have G5 := hidd (HK2.out.more hb3)
                        clear hb3 c0
                        go_wp2_with fail
                        go_roundw
                        case rel => exact ⟨j + 1, by omega, by go_num, by rw [HN.out], G5.out⟩
                        case measure => simp [intOf]; omega
                    · have HN := hidd (show cnt (ordP bs i) (j + 1) = cnt (ordP bs i) j by
                        rw [HCS.out, if_neg]
                        · omega
                        · unfold ordP; simp [h1, h2])
                      go_wp2_with fail
                      go_roundw
                      case rel => exact ⟨j + 1, by omega, by go_num, by rw [HN.out], HK2.out⟩
                      case measure => simp [intOf]; omega
                · obtain rfl : j = N := by omega
                  have HFX := hidd (show ((cnt (ordP bs i) j : Nat) : Int) = f i by rw [HF.out])
                  have hown := HK2.out.1
                  have hsz := HK2.out.2.2.size
                  have hlt2 := HK2.out.2.1.lt
                  generalize cnt (ordP bs i) j = x at *
                  go_wp2_with (at_builtin; refine wpList_append_own _ rfl _ _ 25 rfl (w.heap.size + 1) 2 t0 (.int .i64 0) 1 8 Tryd.underlying25 HIF.out.1 HIF.out.2.1 HIF.out.2.2.1 HIF.out.2.2.2 rfl (by decide) _ _ _ rfl (hown.alloc _) ⟨wr.heap.size, 0, none⟩ 1 1 [.int .i64 (x : Int)] rfl rfl ?c1 ?c2 ?c3 ?c4 ?c5 ?_)
                  case c1 => exact one_new _ _ _
                  case c2 => intro u hu; simp at hu; subst hu; rfl
                  case c3 => unfold maxLen; omega
                  case c4 => omega
                  case c5 => simp; omega
                  intro v' w4 hown' hgrow _
                  have K3 := hidd (HK2.out.snoc HFX.out hown' hgrow)
                  clear hown' hgrow hown
                  go_wp2
                  go_roundw
                  case rel => exact ⟨i + 1, by omega, by go_num, K3.out⟩
                  case measure => simp [intOf]; omega
            · obtain rfl : i = N := by omega
              have HLL := hidd (show fl i f = ordL bs i by rw [HF.out]; rfl)
              go_wp2_with fail
              go_ret2
              rw [HE.out.1, HE.out.2, ← HLL.out]
              exact lout_own (zs := fl i f) rfl (by rw [fl_len]; exact HK.out.1) (Nat.le_succ _) HK.out.2.2
    · obtain ⟨e1, e2⟩ := or_bad (n := n) (k := k) (bs := bs) (m := 5) (by unfold orC; rw [if_pos hi, if_neg (fun h => hk h.1)]) (by omega)
      have HE := hidd (And.intro e1 e2)
      have hd : (k != 2) = true := by rw [bne_iff_ne]; exact hk
      clear hi hk e1 e2
      go_enter Tryd.func16, Tryd.ntmps16
      go_wp2_with (refine wpList_load_row rfl 28 (.tmp 1) rfl w.heap.size rfl 28 _ (0,0) _ HA.out.1 Tryd.underlying28 rfl HS.out ?_)
      refine (l01Is_any n k bs hb _).mono ?_
      rintro e w1 ⟨rfl, hb1⟩
      rw [HI.out]
      have G1 := hidd (HA.out.more hb1)
      have c1 := G1.out.1.cell HC1.out
      clear hb1
      go_wp2_with fail
      go_ret2
      rw [HE.out.1, HE.out.2]
      exact lout_nil rfl G1.out.2
end Go.Proofs.YtmeihpakbhfipaaDoor
