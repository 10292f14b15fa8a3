/- TurnColouring: the program and its model. -/
import Derived.Test.YtikcmgmgdbbcfaaGcd
import Derived.Test.YtikcmgmgdbbcfaaGc
namespace Go.Proofs.Ytikcmgmgdbbcfaa
set_option linter.unusedVariables false
set_option linter.unusedSimpArgs false
open Go Go.RowKit Go.Shelf
def toCode (n k : Int) (bs : List Nat) (t : Int) : Int := if isCol n k bs = true then (if turnB t n = true then 0 else 2) else 1
def toN (n k : Int) (bs : List Nat) (t : Int) : Int := if toCode n k bs t = 0 then n else 0
def toK (n k : Int) (bs : List Nat) (t : Int) : Int := if toCode n k bs t = 0 then k else 0
def toB (n k : Int) (bs : List Nat) (t : Int) : List Nat := if toCode n k bs t = 0 then rnB n.toNat (tl t.toNat n.toNat) bs else zbl
/-- What TurnColouring returns. -/
def toOut (n k : Int) (bs : List Nat) (t : Int) : Value := .tuple #[.agg (ccells (toN n k bs t) (toK n k bs t) (toB n k bs t)).toArray, .int .i64 (toCode n k bs t)]
theorem toOut_bad {n k : Int} {bs : List Nat} {t m : Int} (h : toCode n k bs t = m) (hm : m ≠ 0) : toOut n k bs t = .tuple #[.agg (ccells 0 0 zbl).toArray, .int .i64 m] := by
  unfold toOut toN toK toB
  rw [h, if_neg hm, if_neg hm, if_neg hm]
theorem toOut_good {n k : Int} {bs : List Nat} {t : Int} (h : toCode n k bs t = 0) : toOut n k bs t = .tuple #[.agg (ccells n k (rnB n.toNat (tl t.toNat n.toNat) bs)).toArray, .int .i64 0] := by
  unfold toOut toN toK toB
  rw [h, if_pos rfl, if_pos rfl, if_pos rfl]
theorem toCode_1 {n k : Int} {bs : List Nat} {t : Int} (h : isCol n k bs = false) : toCode n k bs t = 1 := by simp [toCode, h]
theorem toCode_2 {n k : Int} {bs : List Nat} {t : Int} (h : isCol n k bs = true) (h2 : turnB t n = false) : toCode n k bs t = 2 := by simp [toCode, h, h2]
theorem toCode_0 {n k : Int} {bs : List Nat} {t : Int} (h : isCol n k bs = true) (h2 : turnB t n = true) : toCode n k bs t = 0 := by simp [toCode, h, h2]
theorem rnB_bys {N : Nat} {zs : List Int} {bs : List Nat} (hb : Bys bs) : Bys (rnB N zs bs) := rnF_bys hb _ _ zbl_bys
theorem toB_bys {n k : Int} {bs : List Nat} (hb : Bys bs) (t : Int) : Bys (toB n k bs t) := by
  unfold toB
  split
  · exact rnB_bys hb
  · exact zbl_bys
theorem rnOut_of {n k : Int} {bs : List Nat} {t : Int} (hi : isCol n k bs = true) (ht : turnB t n = true) : rnOut n k bs (tl t.toNat n.toNat) = .tuple #[.agg (ccells n k (rnB n.toNat (tl t.toNat n.toNat) bs)).toArray, .int .i64 0] := by
  have hbd := isCol_bd hi
  exact rnOut_good (rnCode_0 hi (turnB_ord hbd.1 hbd.2.1 ht))
def RelTk (T N : Nat) (C : Array Value) (g b : Nat) (w : World) (j : Nat) (wr : World) : Prop :=
  Blk wr w.heap.size C 25 ∧ Blk wr (w.heap.size + 1) (ccells 0 0 zbl).toArray 25 ∧ Blk wr b #[.int .i64 (T : Int)] 2 ∧ Blk wr (b + 1) #[.int .i64 (N : Int)] 2 ∧ Blk wr g (icells (tlK T N j)).toArray 2 ∧ w.heap.size + 1 < b ∧ b + 1 < g ∧ Below w.heap.size w wr
set_option maxRecDepth 100000 in
set_option maxHeartbeats 2000000 in
theorem impl23t (n k : Int) (bs : List Nat) (hb : Bys bs) (t : Int) (w : World) :
    Calls Try.prog 23 #[.agg (ccells n k bs).toArray, .int .i64 t] w fun e w' => e = .returned (toOut n k bs t) ∧ Below w.heap.size w w' := by
  have HS := hidd (size_c26 n k hb)
  have Hz := zero26
  have HZS := hidd size_z26
  have HZ1 := hidd (ccells_one 0 0 zbl)
  have HC0 := hidd (show (ccells n k bs).toArray[0]? = some (.int .i64 n) from rfl)
  have hmk : ∀ w0, w0 = (w.alloc (.cells (ccells n k bs).toArray 25)).alloc (.cells (ccells 0 0 zbl).toArray 25) → ∀ w1, Below w0.heap.size w0 w1 →
      Blk w1 w.heap.size (ccells n k bs).toArray 25 ∧ Blk w1 (w.heap.size + 1) (ccells 0 0 zbl).toArray 25 ∧ Below w.heap.size w w1 := by
    rintro w0 rfl w1 hb1
    have hb := ((Below.refl w.heap.size w).alloc (Nat.le_refl _) (.cells (ccells n k bs).toArray 25)).alloc (by simp) (.cells (ccells 0 0 zbl).toArray 25)
    have hbl := hb.trans (hb1.mono (by simp; omega))
    exact ⟨((Blk.new _ _ _ _ rfl).alloc _).below hb1 (by simp; omega), (Blk.new _ _ _ _ (by simp)).below hb1 (by simp), hbl⟩
  have HMK := hidd hmk
  clear hmk
  cases hi : isCol n k bs with
  | false =>
    have H := hidd (toOut_bad (toCode_1 (t := t) hi) (by omega))
    have HI := hidd hi
    clear hi
    go_enter Try.func23, Try.ntmps23
    go_wp2_with (refine wpList_load_row rfl 25 (.tmp 2) rfl w.heap.size rfl 25 _ (0,0) _ ((Blk.new _ _ _ _ rfl).alloc _) Try.underlying25 rfl HS.out ?_)
    refine (implIs_any n k bs hb _).mono ?_
    rintro e w1 ⟨rfl, hb1⟩
    rw [HI.out]
    have G := hidd (HMK.out _ rfl _ hb1)
    have R := hidd (And.intro G.out.2.1 (And.intro (G.out.2.1.rowSame (ccells 0 0 zbl).toArray) (below_setRow G.out.2.2 (g := w.heap.size + 1) (by omega) (ccells 0 0 zbl).toArray)))
    clear hb1
    go_wp2_with (first
      | (refine wpList_zero26 rfl rfl ?_)
      | (refine wpList_store_row rfl 25 (.tmp 4) (.tmp 12) rfl (w.heap.size + 1) _ rfl rfl 25 _ R.out.1 HZS.out rfl HZ1.out ?_))
    exact ret_col rfl zbl_bys rfl R.out.2.1 rfl rfl ⟨by rw [H.out]; rfl, R.out.2.2⟩
  | true =>
    have HI := hidd hi
    obtain ⟨n1, n2, k1, k2⟩ := isCol_bd hi
    cases ht : turnB t n with
    | false =>
      have H := hidd (toOut_bad (toCode_2 hi ht) (by omega))
      have HT := hidd ht
      clear hi ht
      go_enter Try.func23, Try.ntmps23
      go_wp2_with (refine wpList_load_row rfl 25 (.tmp 2) rfl w.heap.size rfl 25 _ (0,0) _ ((Blk.new _ _ _ _ rfl).alloc _) Try.underlying25 rfl HS.out ?_)
      refine (implIs_any n k bs hb _).mono ?_
      rintro e w1 ⟨rfl, hb1⟩
      rw [HI.out]
      have G := hidd (HMK.out _ rfl _ hb1)
      have c0 := G.out.1.cell HC0.out
      clear hb1
      go_wp2_with fail
      refine (turns57 t n n1 n2 _).mono ?_
      rintro e w2 ⟨rfl, hb2⟩
      rw [HT.out]
      have z2 := G.out.2.1.below hb2 G.out.2.1.lt
      have b2 := G.out.2.2.trans (hb2.mono G.out.2.2.size)
      have R := hidd (And.intro z2 (And.intro (z2.rowSame (ccells 0 0 zbl).toArray) (below_setRow b2 (g := w.heap.size + 1) (by omega) (ccells 0 0 zbl).toArray)))
      clear hb2 z2 b2 c0
      go_wp2_with (first
        | (refine wpList_zero26 rfl rfl ?_)
        | (refine wpList_store_row rfl 25 (.tmp 4) (.tmp 18) rfl (w.heap.size + 1) _ rfl rfl 25 _ R.out.1 HZS.out rfl HZ1.out ?_))
      exact ret_col rfl zbl_bys rfl R.out.2.1 rfl rfl ⟨by rw [H.out]; rfl, R.out.2.2⟩
    | true =>
      have H := hidd (toOut_good (toCode_0 hi ht))
      have HT := hidd ht
      have HRN := hidd (rnOut_of hi ht)
      obtain ⟨t1, t2⟩ : 1 ≤ t ∧ t ≤ n := by unfold turnB at ht; rw [Bool.and_eq_true] at ht; exact inB_bd ht.1
      obtain ⟨T, rfl⟩ := Int.eq_ofNat_of_zero_le (show 0 ≤ t by omega)
      obtain ⟨N, rfl⟩ := Int.eq_ofNat_of_zero_le (show 0 ≤ n by omega)
      rw [Int.toNat_natCast, Int.toNat_natCast] at H HRN
      obtain ⟨PB, hPB⟩ : ∃ PB, PB = rnB N (tl T N) bs := ⟨_, rfl⟩
      rw [← hPB] at H HRN
      have HPB := hidd (show Bys PB by rw [hPB]; exact rnB_bys hb)
      have HPS := hidd (size_c26 (N : Int) k HPB.out)
      have HPO := hidd (size_cc 0 0 (N : Int) k zbl_bys HPB.out)
      have HPA := hidd (ccells_one (N : Int) k PB)
      have HRC := hidd (fun (a : Option Addr) (cap : Nat) (W : World) (hW : SlI W a (tl T N)) => by have h := impl32r (N : Int) k bs hb (tl T N) a cap W hW (by rw [tl_len]; omega); rw [tl_len, HRN] at h; exact h)
      have hmk := make29 N (by omega)
      rw [tlK_zero T N] at hmk
      clear hi ht hPB
      go_enter Try.func23, Try.ntmps23
      go_wp2_with (refine wpList_load_row rfl 25 (.tmp 2) rfl w.heap.size rfl 25 _ (0,0) _ ((Blk.new _ _ _ _ rfl).alloc _) Try.underlying25 rfl HS.out ?_)
      refine (implIs_any (N : Int) k bs hb _).mono ?_
      rintro e w1 ⟨rfl, hb1⟩
      rw [HI.out]
      have G := hidd (HMK.out _ rfl _ hb1)
      have c0 := G.out.1.cell HC0.out
      clear hb1
      go_wp2_with fail
      refine (turns57 (T : Int) (N : Int) n1 n2 _).mono ?_
      rintro e w2 ⟨rfl, hb2⟩
      rw [HT.out]
      have G2 := hidd (And.intro (G.out.1.below hb2 G.out.1.lt) (And.intro (G.out.2.1.below hb2 G.out.2.1.lt) (G.out.2.2.trans (hb2.mono G.out.2.2.size))))
      clear hb2 c0
      have c0 := G2.out.1.cell HC0.out
      go_wp2_with fail
      refine (times58 (T : Int) (N : Int) w2).mono ?_
      rintro e w3 ⟨rfl, hw3⟩
      have G3 := hidd (show Blk w3 w.heap.size (ccells (N : Int) k bs).toArray 25 ∧ Blk w3 (w.heap.size + 1) (ccells 0 0 zbl).toArray 25 ∧ Blk w3 w2.heap.size #[.int .i64 (T : Int)] 2 ∧ Blk w3 (w2.heap.size + 1) #[.int .i64 (N : Int)] 2 ∧ w2.heap.size + 1 < w3.heap.size ∧ w.heap.size + 1 < w2.heap.size ∧ Below w.heap.size w w3 by
        rw [← hw3]
        exact ⟨(G2.out.1.alloc _).alloc _, (G2.out.2.1.alloc _).alloc _, (Blk.new _ _ _ _ rfl).alloc _, Blk.new _ _ _ _ (by simp), by simp, G2.out.2.1.lt, (G2.out.2.2.alloc G2.out.2.2.size _).alloc (by have := G2.out.2.2.size; simp; omega) _⟩)
      clear hw3 c0
      have c0 := G3.out.1.cell HC0.out
      have c0' := (G3.out.1.alloc (.cells (icells (tlK T N 0)).toArray 2)).cell HC0.out
      go_wp2_with fail
      clear c0 c0'
      go_loopw [28] (fun i wr => ∃ j : Nat, j ≤ N ∧ i = .int .i64 j ∧ RelTk T N (ccells (N : Int) k bs).toArray w3.heap.size w2.heap.size w j wr) (fun i _ => N - (intOf i).toNat)
      case atStart =>
        obtain ⟨g1, g2, g3, g4, g5, g6, g7⟩ := G3.out
        exact ⟨0, by omega, rfl, g1.alloc _, g2.alloc _, g3.alloc _, g4.alloc _, Blk.new _ _ _ _ rfl, g6, g5, g7.alloc g7.size _⟩
      case round =>
        obtain ⟨j, hj, rfl, HR⟩ := hrel
        by_cases hlt : j < N
        · have HK := hidd HR
          obtain ⟨old, hold⟩ : ∃ old, wr.cell? ⟨w3.heap.size, j, none⟩ = some old := ⟨_, HR.2.2.2.2.1.cell (icells_get (by rw [tlK_len]; exact hlt))⟩
          have hf := HR.2.2.2.2.1.fro j
          have hst := HR.2.2.2.2.1.same j (.int .i64 ((T * j % N : Nat) : Int))
          rw [icells_set, tlK_set] at hst
          obtain ⟨v, hv⟩ : ∃ v : Int, v = ((T * j % N : Nat) : Int) := ⟨_, rfl⟩
          have HTA := hidd (take94 T N j w2.heap.size (w2.heap.size + 1) wr HR.2.2.1 HR.2.2.2.1 (by omega) hlt (by omega))
          rw [← hv] at hst HTA
          have K := hidd (show RelTk T N (ccells (N : Int) k bs).toArray w3.heap.size w2.heap.size w (j + 1) (wr.setCell ⟨w3.heap.size, j, none⟩ (.int .i64 v)) from by
            obtain ⟨q1, q2, q3, q4, q5, q6, q7, q8⟩ := HR
            have hq := q1.lt
            exact ⟨q1.other _ _ (by show w.heap.size ≠ w3.heap.size; omega), q2.other _ _ (by show w.heap.size + 1 ≠ w3.heap.size; omega), q3.other _ _ (by show w2.heap.size ≠ w3.heap.size; omega), q4.other _ _ (by show w2.heap.size + 1 ≠ w3.heap.size; omega), hst, q6, q7, q8.setCell (by show w.heap.size ≤ w3.heap.size; omega) _⟩)
          have hjN : (j : Int) < (N : Int) := by omega
          clear HR hst hv
          go_wp2_with (go_at_call 94; refine HTA.out.mono ?_; rintro e w' ⟨rfl, rfl⟩)
          go_roundw
          case rel => exact ⟨j + 1, by omega, by go_num, K.out⟩
          case measure => simp [intOf]; omega
        · have hje : j = N := by omega
          subst hje
          have q5 := HR.2.2.2.2.1
          rw [tlK_done] at q5
          have K := hidd (And.intro HR.1 (And.intro HR.2.1 (And.intro q5 HR.2.2.2.2.2.2.2)))
          have HLT := hidd (tl_len T j)
          clear HR q5
          go_wp2_with (refine wpList_load_row rfl 25 (.tmp 2) rfl w.heap.size rfl 25 _ (0,0) _ K.out.1 Try.underlying25 rfl HS.out ?_)
          refine (HRC.out (some ⟨w3.heap.size, 0, none⟩) j wr (sl_of_blk K.out.2.2.1)).mono ?_
          rintro e w4 ⟨rfl, hb4⟩
          have z4 := K.out.2.1.below hb4 K.out.2.1.lt
          have b4 := K.out.2.2.2.trans (hb4.mono K.out.2.2.2.size)
          have R := hidd (And.intro z4 (And.intro (z4.rowSame (ccells (j : Int) k PB).toArray) (below_setRow b4 (g := w.heap.size + 1) (by omega) (ccells (j : Int) k PB).toArray)))
          clear hb4 z4 b4
          go_wp2_with (refine wpList_store_row rfl 25 (.tmp 4) (.tmp 41) rfl (w.heap.size + 1) _ rfl rfl 25 _ R.out.1 HPS.out HPO.out HPA.out ?_)
          exact ret_col rfl HPB.out rfl R.out.2.1 rfl rfl ⟨by rw [H.out]; rfl, R.out.2.2⟩
def tlq (T N j : Nat) : List Int := (List.range j).map fun i => ((T * i % N : Nat) : Int)
theorem tlq_len (T N j : Nat) : (tlq T N j).length = j := by simp [tlq]
theorem tlq_snoc (T N j : Nat) : tlq T N (j + 1) = tlq T N j ++ [((T * j % N : Nat) : Int)] := by simp [tlq, List.range_succ]
theorem turnB_alt {t n : Int} (n1 : 1 ≤ n) : turnB t n = (inB t 1 (max (n - 1) 1) && (Nat.gcd t.toNat n.toNat == 1)) := by
  unfold turnB
  rw [Nat.gcd_comm n.toNat]
  by_cases h1 : 1 ≤ t ∧ t ≤ max (n - 1) 1
  · rw [inB_yes h1.1 h1.2, inB_yes h1.1 (by omega)]
  · rw [inB_no (n := t) (lo := 1) (hi := max (n - 1) 1) (by omega)]
    by_cases h2 : 1 ≤ t ∧ t ≤ n
    · obtain rfl : t = n := by omega
      rw [Nat.gcd_self, beq_eq_false_iff_ne.2 (show t.toNat ≠ 1 by omega), Bool.and_false, Bool.false_and]
    · rw [inB_no h2]
def RelTs (T N : Nat) (C : Array Value) (w : World) (j : Nat) (v : Value) (wr : World) : Prop :=
  Blk wr w.heap.size C 25 ∧ Blk wr (w.heap.size + 1) (ccells 0 0 zbl).toArray 25 ∧ wr.ownsRow (w.heap.size + 1 + 1) 2 1 v (tlq T N j).length (icells (tlq T N j)) ∧ Below w.heap.size w wr
set_option maxRecDepth 100000 in
set_option maxHeartbeats 4000000 in
theorem spec21t (n k : Int) (bs : List Nat) (hb : Bys bs) (t : Int) (w : World) :
    Calls Try.prog 21 #[.agg (ccells n k bs).toArray, .int .i64 t] w fun e w' => e = .returned (toOut n k bs t) ∧ Below w.heap.size w w' := by
  have HS := hidd (size_c26 n k hb)
  have Hz := zero26
  have HZS := hidd size_z26
  have HZ1 := hidd (ccells_one 0 0 zbl)
  have HC0 := hidd (show (ccells n k bs).toArray[0]? = some (.int .i64 n) from rfl)
  have hmk : ∀ w0, w0 = (w.alloc (.cells (ccells n k bs).toArray 25)).alloc (.cells (ccells 0 0 zbl).toArray 25) → ∀ w1, Below w0.heap.size w0 w1 →
      Blk w1 w.heap.size (ccells n k bs).toArray 25 ∧ Blk w1 (w.heap.size + 1) (ccells 0 0 zbl).toArray 25 ∧ Below w.heap.size w w1 := by
    rintro w0 rfl w1 hb1
    have hb := ((Below.refl w.heap.size w).alloc (Nat.le_refl _) (.cells (ccells n k bs).toArray 25)).alloc (by simp) (.cells (ccells 0 0 zbl).toArray 25)
    have hbl := hb.trans (hb1.mono (by simp; omega))
    exact ⟨((Blk.new _ _ _ _ rfl).alloc _).below hb1 (by simp; omega), (Blk.new _ _ _ _ (by simp)).below hb1 (by simp), hbl⟩
  have HMK := hidd hmk
  clear hmk
  cases hi : isCol n k bs with
  | false =>
    have H := hidd (toOut_bad (toCode_1 (t := t) hi) (by omega))
    have HI := hidd hi
    clear hi
    go_enter Try.func21, Try.ntmps21
    go_wp2_with (refine wpList_load_row rfl 25 (.tmp 2) rfl w.heap.size rfl 25 _ (0,0) _ ((Blk.new _ _ _ _ rfl).alloc _) Try.underlying25 rfl HS.out ?_)
    refine (l01Is_any n k bs hb _).mono ?_
    rintro e w1 ⟨rfl, hb1⟩
    rw [HI.out]
    have G := hidd (HMK.out _ rfl _ hb1)
    have R := hidd (And.intro G.out.2.1 (And.intro (G.out.2.1.rowSame (ccells 0 0 zbl).toArray) (below_setRow G.out.2.2 (g := w.heap.size + 1) (by omega) (ccells 0 0 zbl).toArray)))
    clear hb1
    go_wp2_with (first
      | (refine wpList_zero26 rfl rfl ?_)
      | (refine wpList_store_row rfl 25 (.tmp 4) (.tmp 11) rfl (w.heap.size + 1) _ rfl rfl 25 _ R.out.1 HZS.out rfl HZ1.out ?_))
    exact ret_col rfl zbl_bys rfl R.out.2.1 rfl rfl ⟨by rw [H.out]; rfl, R.out.2.2⟩
  | true =>
    have HI := hidd hi
    obtain ⟨n1, n2, k1, k2⟩ := isCol_bd hi
    have htb := turnB_alt (t := t) n1

    cases hc : inB t 1 (max (n - 1) 1) with
    | false =>
        have HC1 := hidd hc
        have H := hidd (toOut_bad (toCode_2 hi (by rw [htb, hc]; rfl)) (by omega))
        clear hi hc htb
        go_enter Try.func21, Try.ntmps21
        go_wp2_with (refine wpList_load_row rfl 25 (.tmp 2) rfl w.heap.size rfl 25 _ (0,0) _ ((Blk.new _ _ _ _ rfl).alloc _) Try.underlying25 rfl HS.out ?_)
        refine (l01Is_any _ k bs hb _).mono ?_
        rintro e w1 ⟨rfl, hb1⟩
        rw [HI.out]
        have G := hidd (HMK.out _ rfl _ hb1)
        have c0 := G.out.1.cell HC0.out
        clear hb1
        have R := hidd (And.intro G.out.2.1 (And.intro (G.out.2.1.rowSame (ccells 0 0 zbl).toArray) (below_setRow G.out.2.2 (g := w.heap.size + 1) (by omega) (ccells 0 0 zbl).toArray)))
        go_wp2_with (first
          | (go_at_call 42; refine (in49 _ _ _ _).mono ?_; rintro e w' ⟨rfl, rfl⟩; rw [HC1.out])
          | (refine wpList_zero26 rfl rfl ?_)
          | (refine wpList_store_row rfl 25 (.tmp 4) (.tmp 26) rfl (w.heap.size + 1) _ rfl rfl 25 _ R.out.1 HZS.out rfl HZ1.out ?_))
        exact ret_col rfl zbl_bys rfl R.out.2.1 rfl rfl ⟨by rw [H.out]; rfl, R.out.2.2⟩
    | true =>
        have HC1 := hidd hc
        have hcb := inB_bd hc
        obtain ⟨T, rfl⟩ := Int.eq_ofNat_of_zero_le (show 0 ≤ t by omega)
        obtain ⟨N, rfl⟩ := Int.eq_ofNat_of_zero_le (show 0 ≤ n by omega)
        rw [hc, Bool.true_and, Int.toNat_natCast, Int.toNat_natCast] at htb
        obtain ⟨g, hg⟩ : ∃ g, g = Nat.gcd T N := ⟨_, rfl⟩
        have HG := hidd hg
        rw [← hg] at htb
        by_cases hg1 : g = 1
        · rw [beq_iff_eq.2 hg1] at htb
          have H := hidd (toOut_good (toCode_0 hi htb))
          have HOR := hidd (turnB_ord n1 n2 htb)
          rw [Int.toNat_natCast, Int.toNat_natCast] at H HOR
          obtain ⟨PB, hPB⟩ : ∃ PB, PB = rnB N (tl T N) bs := ⟨_, rfl⟩
          rw [← hPB] at H
          have HPE := hidd hPB
          have HPB := hidd (show Bys PB by rw [hPB]; exact rnB_bys hb)
          have HPS := hidd (size_c26 (N : Int) k HPB.out)
          have HPO := hidd (size_cc 0 0 (N : Int) k zbl_bys HPB.out)
          have HPA := hidd (ccells_one (N : Int) k PB)
          have HRC := hidd (fun (a : Option Addr) (cap : Nat) (W : World) (hW : SlI W a (tl T N)) => by have h := renamed64 N k bs hb (tl T N) a cap W hW (by omega) (by omega) HOR.out; rw [tl_len, ← HPE.out] at h; exact h)
          have hz : ((1 : Int) != 1) = false := rfl
          have hz2 : ((N : Int) == 0) = false := by rw [beq_eq_false_iff_ne]; omega
          subst hg1
          obtain ⟨t0, hi2, hz0, hz1, hz3⟩ := info_parts info2
          have HIF := hidd (And.intro hi2 (And.intro hz0 (And.intro hz1 hz3)))
          clear hi hc htb hg hPB hi2 hz0 hz1 hz3
          go_enter Try.func21, Try.ntmps21
          go_wp2_with (refine wpList_load_row rfl 25 (.tmp 2) rfl w.heap.size rfl 25 _ (0,0) _ ((Blk.new _ _ _ _ rfl).alloc _) Try.underlying25 rfl HS.out ?_)
          refine (l01Is_any _ k bs hb _).mono ?_
          rintro e w1 ⟨rfl, hb1⟩
          rw [HI.out]
          have G := hidd (HMK.out _ rfl _ hb1)
          have c0 := G.out.1.cell HC0.out
          clear hb1
          go_wp2_with (first
            | (go_at_call 42; refine (in49 _ _ _ _).mono ?_; rintro e w' ⟨rfl, rfl⟩; rw [HC1.out])
            | (go_at_call 53; refine (sgcd53 T N (by omega) (by omega) _).mono ?_; rintro e w' ⟨rfl, rfl⟩; rw [← HG.out]))
          clear c0
          go_loopw [6, 7] (fun v e wr => ∃ j : Nat, j ≤ N ∧ e = .int .i64 j ∧ RelTs T N (ccells (N : Int) k bs).toArray w j v wr) (fun _ e _ => N - (intOf e).toNat)
          case atStart =>
            have := G.out.2.1.lt
            refine ⟨0, by omega, rfl, G.out.1.alloc _, G.out.2.1.alloc _, ⟨rfl, .inr ⟨w1.heap.size, 0, #[], rfl, by omega, ?_, ?_, ?_, rfl, rfl⟩⟩, G.out.2.2.alloc G.out.2.2.size _⟩
            · exact Blk.new _ _ _ _ rfl
            · simp [tlq]
            · simp [maxLen]
          case round =>
            obtain ⟨j, hj, rfl, HR⟩ := hrel
            have c0 := HR.1.cell HC0.out
            by_cases hlt : j < N
            · have HK := hidd HR
              clear HR
              have hown := HK.out.2.2.1
              have hlen := tlq_len T N j
              have hsz := HK.out.2.2.2.size
              have hszC := HK.out.2.1.lt
              have HH := hidd (tlq_snoc T N j)
              obtain ⟨m0, m1⟩ := mul_rng (T := T) (i := j) (N := N) (by omega) hlt (by omega)
              obtain ⟨v, hv⟩ : ∃ v : Int, v = ((T * j % N : Nat) : Int) := ⟨_, rfl⟩
              have hve : (T : Int) * (j : Int) % (N : Int) = v := by rw [hv]; simp
              rw [← hv] at HH
              clear hv
              go_wp2_with (at_builtin; refine wpList_append_own _ rfl _ _ 22 rfl (w.heap.size + 1 + 1) 2 t0 (.int .i64 0) 1 8 Try.underlying22 HIF.out.1 HIF.out.2.1 HIF.out.2.2.1 HIF.out.2.2.2 rfl (by decide) _ _ _ rfl (hown.alloc _) ⟨wr.heap.size, 0, none⟩ 1 1 [.int .i64 v] rfl rfl ?c1 ?c2 ?c3 ?c4 ?c5 ?_)
              case c1 => rw [← hve]; exact one_new _ _ _
              case c2 => intro u hu; simp at hu; subst hu; rfl
              case c3 => unfold maxLen; omega
              case c4 => omega
              case c5 => simp; omega
              intro v' w2 hown' hgrow _
              have K3 := hidd (show RelTs T N (ccells (N : Int) k bs).toArray w (j + 1) v' w2 from ⟨HK.out.1.below (grown_step hown hgrow (by omega)) (by omega), HK.out.2.1.below (grown_step hown hgrow (by omega)) (by omega), by rw [HH.out, icells_app, List.length_append, tlq_len]; exact hown', HK.out.2.2.2.trans ((grown_step hown hgrow (by omega)).mono (by omega))⟩)
              clear hown' hgrow hown c0
              go_wp2
              go_roundw
              case rel => exact ⟨j + 1, by omega, by go_num, K3.out⟩
              case measure => simp [intOf]; omega
            · have hje : j = N := by omega
              subst hje
              have hq := HR.2.2.1
              rw [show tlq T j j = tl T j from rfl] at hq
              obtain ⟨a, cap, rfl, ho⟩ := own_list hq
              have HK := hidd (And.intro HR.1 (And.intro HR.2.1 (And.intro ho.sl HR.2.2.2)))
              have HLT := hidd (tl_len T j)
              clear HR ho hq
              rw [HLT.out] at *
              go_wp2_with (refine wpList_load_row rfl 25 (.tmp 2) rfl w.heap.size rfl 25 _ (0,0) _ HK.out.1 Try.underlying25 rfl HS.out ?_)
              refine (HRC.out a cap _ HK.out.2.2.1).mono ?_
              rintro e w2 ⟨rfl, hb2⟩
              have z2 := HK.out.2.1.below hb2 HK.out.2.1.lt
              have b2 := HK.out.2.2.2.trans (hb2.mono HK.out.2.2.2.size)
              have R := hidd (And.intro z2 (And.intro (z2.rowSame (ccells (j : Int) k PB).toArray) (below_setRow b2 (g := w.heap.size + 1) (by omega) (ccells (j : Int) k PB).toArray)))
              clear hb2 z2 b2 c0
              go_wp2_with (refine wpList_store_row rfl 25 (.tmp 4) (.tmp 45) rfl (w.heap.size + 1) _ rfl rfl 25 _ R.out.1 HPS.out HPO.out HPA.out ?_)
              exact ret_col rfl HPB.out rfl R.out.2.1 rfl rfl ⟨by rw [H.out]; rfl, R.out.2.2⟩
        · rw [beq_eq_false_iff_ne.2 hg1] at htb
          have H := hidd (toOut_bad (toCode_2 hi htb) (by omega))
          have hz : ((g : Int) != 1) = true := by rw [bne_iff_ne]; omega
          clear hi hc htb hg hg1
          go_enter Try.func21, Try.ntmps21
          go_wp2_with (refine wpList_load_row rfl 25 (.tmp 2) rfl w.heap.size rfl 25 _ (0,0) _ ((Blk.new _ _ _ _ rfl).alloc _) Try.underlying25 rfl HS.out ?_)
          refine (l01Is_any _ k bs hb _).mono ?_
          rintro e w1 ⟨rfl, hb1⟩
          rw [HI.out]
          have G := hidd (HMK.out _ rfl _ hb1)
          have c0 := G.out.1.cell HC0.out
          clear hb1
          have R := hidd (And.intro G.out.2.1 (And.intro (G.out.2.1.rowSame (ccells 0 0 zbl).toArray) (below_setRow G.out.2.2 (g := w.heap.size + 1) (by omega) (ccells 0 0 zbl).toArray)))
          go_wp2_with (first
            | (go_at_call 42; refine (in49 _ _ _ _).mono ?_; rintro e w' ⟨rfl, rfl⟩; rw [HC1.out])
            | (go_at_call 53; refine (sgcd53 T N (by omega) (by omega) _).mono ?_; rintro e w' ⟨rfl, rfl⟩; rw [← HG.out])
            | (refine wpList_zero26 rfl rfl ?_)
            | (refine wpList_store_row rfl 25 (.tmp 4) (.tmp 26) rfl (w.heap.size + 1) _ rfl rfl 25 _ R.out.1 HZS.out rfl HZ1.out ?_))
          exact ret_col rfl zbl_bys rfl R.out.2.1 rfl rfl ⟨by rw [H.out]; rfl, R.out.2.2⟩
end Go.Proofs.Ytikcmgmgdbbcfaa
