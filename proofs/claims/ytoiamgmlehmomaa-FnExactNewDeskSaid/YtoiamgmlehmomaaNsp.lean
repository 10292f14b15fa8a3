/- NamedColouring: the model; the new desk. -/
import Derived.Test.YtoiamgmlehmomaaNcw
import Derived.Test.YtoiamgmlehmomaaNmd
import Derived.Test.YtoiamgmlehmomaaDsl
namespace Go.Proofs.Ytoiamgmlehmomaa
set_option linter.unusedVariables false
set_option linter.unusedSimpArgs false
open Go Go.RowKit
set_option maxRecDepth 100000 in
set_option maxHeartbeats 4000000 in
theorem spec6 (s : ByteArray) (w : World) : Calls Try.prog 6 #[.string s] w fun e w' => e = .returned (ncOut s) ∧ Below w.heap.size w w' := by
  have Hz := zero26
  obtain ⟨rn, hrn⟩ : ∃ v, v = ncN s := ⟨_, rfl⟩
  obtain ⟨rk, hrk⟩ : ∃ v, v = ncK s := ⟨_, rfl⟩
  obtain ⟨rb, hrb⟩ : ∃ v, v = ncB s := ⟨_, rfl⟩
  have hbr : Bys rb := by rw [hrb]; exact ncB_bys s
  have HSR := hidd (size_c26 rn rk hbr)
  have HOR := hidd (size_cc 0 0 rn rk zbl_bys hbr)
  have HAR := hidd (ccells_one rn rk rb)
  have HZ := hidd (size_c26 0 0 zbl_bys)
  have HO := hidd (ccells_one 0 0 zbl)
  by_cases h5 : ncI s = 5
  · have HV := hidd (show nmOut s = .tuple #[.agg (ccells rn rk rb).toArray, .bool false] by rw [hrn, hrk, hrb]; unfold nmOut; rw [decide_eq_false (by omega)])
    have HE := hidd (show ncOut s = .tuple #[.agg (ccells 0 0 zbl).toArray, .int .i64 4] by unfold ncOut ncN ncK ncB ncCode; rw [h5]; rfl)
    clear hrn hrk hrb h5
    go_enter Try.func6, Try.ntmps6
    go_wp2_with fail
    refine (named15 s _).mono ?_
    rintro e w1 ⟨rfl, hb1⟩
    rw [HV.out]
    have g := (Blk.new w (ccells 0 0 zbl).toArray 24 _ rfl).below hb1 (by simp)
    have g2 := ((Below.refl w.heap.size w).alloc (Nat.le_refl _) (.cells (ccells 0 0 zbl).toArray 24)).trans (hb1.mono (by simp))
    have B3 : Below w1.heap.size w1 ((w1.alloc (.cells (ccells 0 0 zbl).toArray 24)).setRow w1.heap.size (ccells rn rk rb).toArray) := below_setRow ((Below.refl _ _).alloc (Nat.le_refl _) _) (Nat.le_refl _) _
    have g3 := g.below B3 g.lt
    have g4 := below_setRow (g2.trans (B3.mono g2.size)) (g := w.heap.size) (Nat.le_refl _) (ccells 0 0 zbl).toArray
    have G := hidd (And.intro g3 (And.intro (g3.rowSame (ccells 0 0 zbl).toArray) g4))
    clear g g2 g3 g4 B3 hb1
    go_wp2_with (first
      | (refine wpList_store_row rfl 24 (.tmp 4) (.tmp 9) rfl w1.heap.size _ rfl rfl 24 _ (Blk.new _ _ _ _ rfl) HSR.out HOR.out HAR.out ?_)
      | (refine wpList_zero26 rfl rfl ?_)
      | (refine wpList_store_row rfl 24 (.tmp 2) (.tmp 13) rfl w.heap.size _ rfl rfl 24 _ G.out.1 HZ.out rfl HO.out ?_)
      | go_in)
    exact ret_col (u := 3) rfl zbl_bys rfl G.out.2.1 rfl (v := ncOut s) HE.out ⟨rfl, G.out.2.2⟩
  · have HV := hidd (show nmOut s = .tuple #[.agg (ccells rn rk rb).toArray, .bool true] by rw [hrn, hrk, hrb]; unfold nmOut; rw [decide_eq_true h5])
    have HE := hidd (show ncOut s = .tuple #[.agg (ccells rn rk rb).toArray, .int .i64 0] by rw [hrn, hrk, hrb]; unfold ncOut ncCode; rw [if_neg h5])
    clear hrn hrk hrb h5
    go_enter Try.func6, Try.ntmps6
    go_wp2_with fail
    refine (named15 s _).mono ?_
    rintro e w1 ⟨rfl, hb1⟩
    rw [HV.out]
    have g := (Blk.new w (ccells 0 0 zbl).toArray 24 _ rfl).below hb1 (by simp)
    have g2 := ((Below.refl w.heap.size w).alloc (Nat.le_refl _) (.cells (ccells 0 0 zbl).toArray 24)).trans (hb1.mono (by simp))
    have B3 : Below w1.heap.size w1 ((w1.alloc (.cells (ccells 0 0 zbl).toArray 24)).setRow w1.heap.size (ccells rn rk rb).toArray) := below_setRow ((Below.refl _ _).alloc (Nat.le_refl _) _) (Nat.le_refl _) _
    have g3 := g.below B3 g.lt
    have g4 := below_setRow (g2.trans (B3.mono g2.size)) (g := w.heap.size) (Nat.le_refl _) (ccells rn rk rb).toArray
    have G := hidd (And.intro g3 (And.intro (g3.rowSame (ccells rn rk rb).toArray) (And.intro g4 ((Blk.new w1 (ccells 0 0 zbl).toArray 24 _ rfl).rowSame (ccells rn rk rb).toArray))))
    clear g g2 g3 g4 B3 hb1
    go_wp2_with (first
      | (refine wpList_store_row rfl 24 (.tmp 4) (.tmp 9) rfl w1.heap.size _ rfl rfl 24 _ (Blk.new _ _ _ _ rfl) HSR.out HOR.out HAR.out ?_)
      | (refine wpList_load_row rfl 24 (.tmp 4) rfl w1.heap.size rfl 24 _ (0,0) _ G.out.2.2.2 Try.underlying24 rfl HSR.out ?_)
      | (refine wpList_store_row rfl 24 (.tmp 2) (.tmp 14) rfl w.heap.size _ rfl rfl 24 _ G.out.1 HSR.out HOR.out HAR.out ?_)
      | go_in)
    exact ret_col (u := 3) rfl hbr rfl G.out.2.1 rfl (v := ncOut s) HE.out ⟨rfl, G.out.2.2.1⟩
theorem fold_set (off : Nat) (vs : List Value) : ∀ (C : Array Value) (s : Nat), (vs.zipIdx s).foldl (fun cs x => cs.setIfInBounds (off + x.2) x.1) C = setFrom C (off + s) vs := by
  induction vs with
  | nil => intro C s; rfl
  | cons v r ih => intro C s; rw [List.zipIdx_cons, List.foldl_cons, ih, setFrom, Nat.add_assoc]
theorem built30 {n k m l : Int} {bs cs : List Nat} (hb : Bys bs) (hc : Bys cs) : Try.prog.built 30 [(0, .agg (ccells n k bs).toArray), (1, .agg (ccells m l cs).toArray)] = some (dcl n k bs m l cs).toArray := by
  obtain ⟨it, h1, h2⟩ := Option.map_eq_some_iff.1 info30
  obtain ⟨ie, h3, h4⟩ := Option.map_eq_some_iff.1 size26
  have h5 : it.zero = some (.agg (dcl 0 0 zbl 0 0 zbl).toArray) := congrArg Prod.fst h2
  unfold Program.built
  simp only [h1, Try.underlying30, h5, List.mapM_cons, List.mapM_nil, h3, Option.map_some, h4]
  show Instr.fill _ (dcl 0 0 zbl 0 0 zbl).toArray _ = _
  simp only [Instr.fill, Value.cells, List.getElem?_toArray]
  have L1 : (ccells n k bs).toArray.size = 138 := by simp [cc138 hb]
  have L2 : (ccells m l cs).toArray.size = 138 := by simp [cc138 hc]
  have Z1 : (dcl 0 0 zbl 0 0 zbl).toArray.size = 276 := by simp [dcl_len zbl_bys zbl_bys]
  have e1 : (ccells n k bs).toArray.zipIdx.foldl (fun cs x => cs.setIfInBounds (0 + x.2) x.1) (dcl 0 0 zbl 0 0 zbl).toArray = (dcl n k bs 0 0 zbl).toArray := by
    rw [← dcl_set1 (n := 0) (k := 0) (m := 0) (l := 0) zbl_bys hb zbl_bys, ← Array.foldl_toList, Array.toList_zipIdx]
    exact fold_set 0 _ _ 0
  have e2 : (ccells m l cs).toArray.zipIdx.foldl (fun cs x => cs.setIfInBounds (138 + x.2) x.1) (dcl n k bs 0 0 zbl).toArray = (dcl n k bs m l cs).toArray := by
    rw [← dcl_set2 (n := n) (k := k) (m := 0) (l := 0) hb zbl_bys hc, ← Array.foldl_toList, Array.toList_zipIdx]
    exact fold_set 138 _ _ 0
  have Z2 : (dcl n k bs 0 0 zbl).toArray.size = 276 := by simp [dcl_len hb zbl_bys]
  show (if (decide ((ccells n k bs).toArray.size ≠ 138) || decide (0 + (ccells n k bs).toArray.size > (dcl 0 0 zbl 0 0 zbl).toArray.size)) = true then none else
    if (decide ((ccells m l cs).toArray.size ≠ 138) || decide (138 + (ccells m l cs).toArray.size > (Array.foldl (fun cs x => cs.setIfInBounds (0 + x.snd) x.fst) (dcl 0 0 zbl 0 0 zbl).toArray (ccells n k bs).toArray.zipIdx).size)) = true then none else
    some (Array.foldl (fun cs x => cs.setIfInBounds (138 + x.snd) x.fst) (Array.foldl (fun cs x => cs.setIfInBounds (0 + x.snd) x.fst) (dcl 0 0 zbl 0 0 zbl).toArray (ccells n k bs).toArray.zipIdx) (ccells m l cs).toArray.zipIdx)) = _
  rw [e1, e2, L1, L2, Z1, Z2, if_neg (by simp), if_neg (by simp)]
theorem wpList_build30 {n k m l : Int} {bs cs : List Nat} (hb : Bys bs) (hc : Bys cs) {ops : Array Oper} {rest : List Oper} {o : Oper} {a : Act} {w : World} {Q : Exit → Act → World → Prop} (hg : o.guard = none) (x y : Operand) (ho : o.op = .build 30 #[(0, x), (1, y)])
    (hx : a.eval x = .agg (ccells n k bs).toArray) (hy : a.eval y = .agg (ccells m l cs).toArray)
    (h : wpList Try.prog ops Q rest (a.put o.dst (.agg (dcl n k bs m l cs).toArray)) w) : wpList Try.prog ops Q (o :: rest) a w := by
  have hbu := built30 (n := n) (k := k) (m := m) (l := l) hb hc
  obtain ⟨D, hD⟩ : ∃ D, D = (dcl n k bs m l cs).toArray := ⟨_, rfl⟩
  rw [← hD] at hbu h
  have e : ((#[(0, x), (1, y)] : Array (Nat × Operand)).map fun (i, x) => (i, a.eval x)).toList = [(0, .agg (ccells n k bs).toArray), (1, .agg (ccells m l cs).toArray)] := by simp [hx, hy]
  refine wpList_build hg 30 _ ho ?_ ?_
  · rw [e, hbu]; rfl
  · rw [e, hbu]; exact h
/-- The new desk. -/
def newD : Value := .agg (dcl (pcN 0) (pcK 0) (pcB 0) (pcN 0) (pcK 0) (pcB 0)).toArray
set_option maxRecDepth 100000 in
set_option maxHeartbeats 4000000 in
theorem impl10 (w : World) : Calls Try.prog 10 #[] w fun e w' => e = .returned newD ∧ Below w.heap.size w w' := by
  have Hz := zero26
  have Hz2 := zero30
  have hbr := pcB_bys 0
  unfold newD
  obtain ⟨rn, hrn⟩ : ∃ v : Int, v = pcN 0 := ⟨_, rfl⟩
  obtain ⟨rk, hrk⟩ : ∃ v, v = pcK 0 := ⟨_, rfl⟩
  obtain ⟨rb, hrb⟩ : ∃ v, v = pcB 0 := ⟨_, rfl⟩
  have HV := hidd (show ncOut (pcT 0) = .tuple #[.agg (ccells rn rk rb).toArray, .int .i64 0] by rw [hrn, hrk, hrb]; exact ncOut_at 0 (by omega))
  rw [← hrb] at hbr
  rw [← hrn, ← hrk, ← hrb]
  clear hrn hrk hrb
  have HSR := hidd (size_c26 rn rk hbr)
  have HOR := hidd (size_cc 0 0 rn rk zbl_bys hbr)
  have HAR := hidd (ccells_one rn rk rb)
  have HSD := hidd (size_d30 (n := rn) (k := rk) (m := rn) (l := rk) hbr hbr)
  have HOD := hidd (show (dcl 0 0 zbl 0 0 zbl).toArray.size = (dcl rn rk rb rn rk rb).toArray.size by simp [dcl_len zbl_bys zbl_bys, dcl_len hbr hbr])
  have HAD := hidd (dcl_one (n := rn) (k := rk) (m := rn) (l := rk) (bs := rb) (cs := rb))
  have HB := hidd hbr
  go_enter Try.func10, Try.ntmps10
  go_wp2_with fail
  refine Calls.mono (impl7 (pcT 0) _) ?_
  rintro e w1 ⟨rfl, hb1⟩
  rw [HV.out]
  have g := (Blk.new w (dcl 0 0 zbl 0 0 zbl).toArray 30 _ rfl).below hb1 (by simp)
  have g2 := ((Below.refl w.heap.size w).alloc (Nat.le_refl _) (.cells (dcl 0 0 zbl 0 0 zbl).toArray 30)).trans (hb1.mono (by simp))
  have B3 : Below w1.heap.size w1 ((w1.alloc (.cells (ccells 0 0 zbl).toArray 24)).setRow w1.heap.size (ccells rn rk rb).toArray) := below_setRow ((Below.refl _ _).alloc (Nat.le_refl _) _) (Nat.le_refl _) _
  have g3 := g.below B3 g.lt
  have g4 := below_setRow (g2.trans (B3.mono g2.size)) (g := w.heap.size) (Nat.le_refl _) (dcl rn rk rb rn rk rb).toArray
  have G := hidd (And.intro g3 (And.intro (g3.rowSame (dcl rn rk rb rn rk rb).toArray) (And.intro g4 ((Blk.new w1 (ccells 0 0 zbl).toArray 24 _ rfl).rowSame (ccells rn rk rb).toArray))))
  clear g g2 g3 g4 B3 hb1 hbr
  go_wp2_with (first
      | (refine wpList_store_row rfl 24 (.tmp 1) (.tmp 5) rfl w1.heap.size _ rfl rfl 24 _ (Blk.new _ _ _ _ rfl) HSR.out HOR.out HAR.out ?_)
      | (refine wpList_load_row rfl 24 (.tmp 1) rfl w1.heap.size rfl 24 _ (0,0) _ G.out.2.2.2 Try.underlying24 rfl HSR.out ?_)
      | (refine wpList_build30 HB.out HB.out rfl (.tmp 7) (.tmp 8) rfl rfl rfl ?_)
      | (refine wpList_store_row rfl 30 (.tmp 0) (.tmp 9) rfl w.heap.size _ rfl rfl 30 _ G.out.1 HSD.out HOD.out HAD.out ?_)
      | go_in)
  refine bodyPost_ret (results_cell_row rfl _ _ w.heap.size 30 _ (0,0) _ rfl G.out.2.1 Try.underlying30 rfl HSD.out) rfl ⟨rfl, G.out.2.2.1⟩
set_option maxRecDepth 100000 in
set_option maxHeartbeats 4000000 in
theorem new18 (w : World) : Calls Try.prog 18 #[] w fun e w' => e = .returned newD ∧ Below w.heap.size w w' := by
  have Hz := zero26
  have Hz2 := zero30
  have hbr := pcB_bys 0
  unfold newD
  obtain ⟨rn, hrn⟩ : ∃ v : Int, v = pcN 0 := ⟨_, rfl⟩
  obtain ⟨rk, hrk⟩ : ∃ v, v = pcK 0 := ⟨_, rfl⟩
  obtain ⟨rb, hrb⟩ : ∃ v, v = pcB 0 := ⟨_, rfl⟩
  have HV := hidd (show nmOut (pcT 0) = .tuple #[.agg (ccells rn rk rb).toArray, .bool true] by rw [hrn, hrk, hrb]; exact nmOut_at 0 (by omega))
  rw [← hrb] at hbr
  rw [← hrn, ← hrk, ← hrb]
  clear hrn hrk hrb
  have HSR := hidd (size_c26 rn rk hbr)
  have HOR := hidd (size_cc 0 0 rn rk zbl_bys hbr)
  have HAR := hidd (ccells_one rn rk rb)
  have HSD := hidd (size_d30 (n := rn) (k := rk) (m := rn) (l := rk) hbr hbr)
  have HOD := hidd (show (dcl 0 0 zbl 0 0 zbl).toArray.size = (dcl rn rk rb rn rk rb).toArray.size by simp [dcl_len zbl_bys zbl_bys, dcl_len hbr hbr])
  have HAD := hidd (dcl_one (n := rn) (k := rk) (m := rn) (l := rk) (bs := rb) (cs := rb))
  have HB := hidd hbr
  go_enter Try.func18, Try.ntmps18
  go_wp2_with fail
  refine Calls.mono (named15 (pcT 0) _) ?_
  rintro e w1 ⟨rfl, hb1⟩
  rw [HV.out]
  have g := (Blk.new w (dcl 0 0 zbl 0 0 zbl).toArray 30 _ rfl).below hb1 (by simp)
  have g2 := ((Below.refl w.heap.size w).alloc (Nat.le_refl _) (.cells (dcl 0 0 zbl 0 0 zbl).toArray 30)).trans (hb1.mono (by simp))
  have B3 : Below w1.heap.size w1 ((w1.alloc (.cells (ccells 0 0 zbl).toArray 24)).setRow w1.heap.size (ccells rn rk rb).toArray) := below_setRow ((Below.refl _ _).alloc (Nat.le_refl _) _) (Nat.le_refl _) _
  have g3 := g.below B3 g.lt
  have g4 := below_setRow (g2.trans (B3.mono g2.size)) (g := w.heap.size) (Nat.le_refl _) (dcl rn rk rb rn rk rb).toArray
  have G := hidd (And.intro g3 (And.intro (g3.rowSame (dcl rn rk rb rn rk rb).toArray) (And.intro g4 ((Blk.new w1 (ccells 0 0 zbl).toArray 24 _ rfl).rowSame (ccells rn rk rb).toArray))))
  clear g g2 g3 g4 B3 hb1 hbr
  go_wp2_with (first
      | (refine wpList_store_row rfl 24 (.tmp 1) (.tmp 5) rfl w1.heap.size _ rfl rfl 24 _ (Blk.new _ _ _ _ rfl) HSR.out HOR.out HAR.out ?_)
      | (refine wpList_load_row rfl 24 (.tmp 1) rfl w1.heap.size rfl 24 _ (0,0) _ G.out.2.2.2 Try.underlying24 rfl HSR.out ?_)
      | (refine wpList_build30 HB.out HB.out rfl (.tmp 7) (.tmp 8) rfl rfl rfl ?_)
      | (refine wpList_store_row rfl 30 (.tmp 0) (.tmp 9) rfl w.heap.size _ rfl rfl 30 _ G.out.1 HSD.out HOD.out HAD.out ?_)
      | go_in)
  refine bodyPost_ret (results_cell_row rfl _ _ w.heap.size 30 _ (0,0) _ rfl G.out.2.1 Try.underlying30 rfl HSD.out) rfl ⟨rfl, G.out.2.2.1⟩
set_option maxRecDepth 100000 in
theorem spec9 (w : World) : Calls Try.prog 9 #[] w fun e w' => e = .returned newD ∧ Below w.heap.size w w' := by
  have Hz2 := zero30
  have hbr := pcB_bys 0
  have HSD := hidd (size_d30 (n := pcN 0) (k := pcK 0) (m := pcN 0) (l := pcK 0) hbr hbr)
  have HOD := hidd (show (dcl 0 0 zbl 0 0 zbl).toArray.size = (dcl (pcN 0) (pcK 0) (pcB 0) (pcN 0) (pcK 0) (pcB 0)).toArray.size by simp [dcl_len zbl_bys zbl_bys, dcl_len hbr hbr])
  have HAD := hidd (dcl_one (n := pcN 0) (k := pcK 0) (m := pcN 0) (l := pcK 0) (bs := pcB 0) (cs := pcB 0))
  have HC := hidd (fun w => new18 w)
  unfold newD at HC ⊢
  obtain ⟨D, hD⟩ : ∃ D, D = (dcl (pcN 0) (pcK 0) (pcB 0) (pcN 0) (pcK 0) (pcB 0)).toArray := ⟨_, rfl⟩
  rw [← hD] at HSD HOD HAD HC ⊢
  clear hD
  go_enter Try.func9, Try.ntmps9
  go_wp2_with fail
  refine Calls.mono (HC.out _) ?_
  rintro e w1 ⟨rfl, hb1⟩
  have g := (Blk.new w (dcl 0 0 zbl 0 0 zbl).toArray 30 _ rfl).below hb1 (by simp)
  have g2 := ((Below.refl w.heap.size w).alloc (Nat.le_refl _) (.cells (dcl 0 0 zbl 0 0 zbl).toArray 30)).trans (hb1.mono (by simp))
  have G := hidd (And.intro g (And.intro (g.rowSame D) (below_setRow g2 (g := w.heap.size) (Nat.le_refl _) D)))
  clear g g2 hb1 hbr
  go_wp2_with (first
      | (refine wpList_store_row rfl 30 (.tmp 0) (.tmp 1) rfl w.heap.size _ rfl rfl 30 _ G.out.1 HSD.out HOD.out HAD.out ?_)
      | go_in)
  refine bodyPost_ret (results_cell_row rfl _ _ w.heap.size 30 _ (0,0) _ rfl G.out.2.1 Try.underlying30 rfl HSD.out) rfl ⟨rfl, G.out.2.2⟩
set_option maxRecDepth 100000 in
set_option maxHeartbeats 1000000 in
theorem eqDesk_same (n k : Int) (bs : List Nat) (m l : Int) (cs : List Nat) (hb : Bys bs) (hc : Bys cs) (w : World) :
    Calls Try.prog 11 #[.agg (dcl n k bs m l cs).toArray, .agg (dcl n k bs m l cs).toArray] w fun e w' => e = .returned (.bool true) ∧ Below w.heap.size w w' := by
  have H1 := hidd (dcl_fst (n := n) (k := k) (m := m) (l := l) (bs := bs) (cs := cs))
  have H2 := hidd (dcl_snd (n := n) (k := k) (m := m) (l := l) (cs := cs) hb)
  have S1 := hidd (size_l24 n k hb)
  have S2 := hidd (size_l24 m l hc)
  obtain ⟨C, hC⟩ : ∃ C, C = (dcl n k bs m l cs).toArray := ⟨_, rfl⟩
  rw [← hC] at H1 H2
  rw [← hC]
  clear hC
  go_enter Try.func11, Try.ntmps11
  go_wp2_with (first
    | (refine wpList_load_mid rfl 24 (.tmp 5) rfl w.heap.size 0 rfl (ccells n k bs) _ (((Blk.new w C 30 _ rfl).alloc _).range 0 _ H1.out) Try.underlying24 rfl S1.out ?_)
    | (refine wpList_load_mid rfl 24 (.tmp 7) rfl (w.heap.size + 1) 0 rfl (ccells n k bs) _ ((Blk.new (w.alloc (.cells C 30)) C 30 _ (by simp)).range 0 _ H1.out) Try.underlying24 rfl S1.out ?_))
  refine (eqCol_same n k bs hb _).mono ?_
  rintro e w1 ⟨rfl, hb1⟩
  have G := hidd (And.intro (((Blk.new w C 30 _ rfl).alloc _).below hb1 (by simp; omega)) (And.intro ((Blk.new (w.alloc (.cells C 30)) C 30 (w.heap.size + 1) (by simp)).below hb1 (by simp)) ((((Below.refl w.heap.size w).alloc (Nat.le_refl _) (.cells C 30)).alloc (by simp) (.cells C 30)).trans (hb1.mono (by simp; omega)))))
  clear hb1
  go_wp2_with (first
    | (refine wpList_load_mid rfl 24 (.tmp 11) rfl w.heap.size 138 rfl (ccells m l cs) _ (G.out.1.range 138 _ H2.out) Try.underlying24 rfl S2.out ?_)
    | (refine wpList_load_mid rfl 24 (.tmp 13) rfl (w.heap.size + 1) 138 rfl (ccells m l cs) _ (G.out.2.1.range 138 _ H2.out) Try.underlying24 rfl S2.out ?_))
  refine (eqCol_same m l cs hc _).mono ?_
  rintro e w2 ⟨rfl, hb2⟩
  have G2 := hidd (G.out.2.2.trans (hb2.mono G.out.2.2.size))
  clear hb2
  go_wp2
  go_ret
  exact ⟨rfl, G2.out⟩
end Go.Proofs.Ytoiamgmlehmomaa
