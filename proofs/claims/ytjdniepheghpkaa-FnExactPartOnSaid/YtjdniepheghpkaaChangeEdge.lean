/- ChangeEdge: the program and its model. -/
import Derived.Test.YtjdniepheghpkaaRes
import Derived.Test.YtjdniepheghpkaaColourOf
namespace Go.Proofs.Ytjdniepheghpkaa
set_option linter.unusedVariables false
set_option linter.unusedSimpArgs false
open Go Go.RowKit
def setAt (bs : List Nat) (i j c : Int) : List Nat := bs.set (eix i j).toNat c.toNat
theorem setAt_bys {bs : List Nat} (hb : Bys bs) (i j : Int) {c : Int} (h0 : 0 ≤ c) (h1 : c < 256) : Bys (setAt bs i j c) := hb.set _ _ (by omega)
def codeC (n k : Int) (bs : List Nat) (i j c : Int) : Int := if isCol n k bs then (if pairB i j n && belowB c k then 0 else 2) else 1
def chN (n k : Int) (bs : List Nat) (i j c : Int) : Int := if codeC n k bs i j c = 0 then n else 0
def chK (n k : Int) (bs : List Nat) (i j c : Int) : Int := if codeC n k bs i j c = 0 then k else 0
def chB (n k : Int) (bs : List Nat) (i j c : Int) : List Nat := if codeC n k bs i j c = 0 then setAt bs i j c else zbl
/-- What ChangeEdge returns. -/
def chOut (n k : Int) (bs : List Nat) (i j c : Int) : Value := .tuple #[.agg (ccells (chN n k bs i j c) (chK n k bs i j c) (chB n k bs i j c)).toArray, .int .i64 (codeC n k bs i j c)]
theorem chOut_bad {n k : Int} {bs : List Nat} {i j c m : Int} (h : codeC n k bs i j c = m) (hm : m ≠ 0) : chOut n k bs i j c = .tuple #[.agg (ccells 0 0 zbl).toArray, .int .i64 m] := by
  simp [chOut, chN, chK, chB, h, hm]
theorem chOut_good {n k : Int} {bs : List Nat} {i j c : Int} (h : codeC n k bs i j c = 0) : chOut n k bs i j c = .tuple #[.agg (ccells n k (setAt bs i j c)).toArray, .int .i64 0] := by
  simp [chOut, chN, chK, chB, h]
theorem codeC_1 {n k : Int} {bs : List Nat} {i j c : Int} (h : isCol n k bs = false) : codeC n k bs i j c = 1 := by simp [codeC, h]
theorem codeC_2 {n k : Int} {bs : List Nat} {i j c : Int} (h : isCol n k bs = true) (h2 : (pairB i j n && belowB c k) = false) : codeC n k bs i j c = 2 := by
  unfold codeC; rw [if_pos h, h2]; rfl
theorem codeC_0 {n k : Int} {bs : List Nat} {i j c : Int} (h : isCol n k bs = true) (h1 : pairB i j n = true) (h2 : belowB c k = true) : codeC n k bs i j c = 0 := by simp [codeC, h, h1, h2]
theorem codeC_cases (n k : Int) (bs : List Nat) (i j c : Int) : codeC n k bs i j c = 0 ∧ pairB i j n = true ∧ belowB c k = true ∧ isCol n k bs = true ∨ codeC n k bs i j c ≠ 0 := by
  unfold codeC
  cases h : isCol n k bs <;> cases h1 : pairB i j n <;> cases h2 : belowB c k <;> simp
theorem chB_bys {n k : Int} {bs : List Nat} (hb : Bys bs) (i j c : Int) : Bys (chB n k bs i j c) := by
  unfold chB
  rcases codeC_cases n k bs i j c with ⟨h, _, h2, h3⟩ | h
  · rw [if_pos h]
    have := inB_bd h2
    have := isCol_bd h3
    exact setAt_bys hb _ _ (by omega) (by omega)
  · rw [if_neg h]; exact zbl_bys
set_option maxRecDepth 100000 in
set_option maxHeartbeats 400000 in
theorem with60 (n k : Int) (bs : List Nat) (hb : Bys bs) (m i j c : Int) (w : World) (hm : m ≤ 17) (hi0 : 0 ≤ i) (hi : i < m) (hj0 : 0 ≤ j) (hj : j < m) (hij : i ≠ j) (hc0 : 0 ≤ c) (hc1 : c < 256) :
    Calls Try.prog 60 #[.agg (ccells n k bs).toArray, .int .i64 i, .int .i64 j, .int .i64 c] w fun e w' => e = .returned (.agg (ccells n k (setAt bs i j c)).toArray) ∧ Below w.heap.size w w' := by
  obtain ⟨h1, h2, h3⟩ := eix_bd hm hi0 hi hj0 hj hij
  obtain ⟨E, hE⟩ := Int.eq_ofNat_of_zero_le h1
  have hE1 : E < 136 := by omega
  obtain ⟨x, hx⟩ := Int.eq_ofNat_of_zero_le hc0
  have hwr : IntKind.u8.wrap c = c := u8_in hc0 hc1
  have hset : setAt bs i j c = bs.set E x := by unfold setAt; rw [hE, hx]; simp
  obtain ⟨C, hC⟩ : ∃ C, C = (ccells n k bs).toArray := ⟨_, rfl⟩
  obtain ⟨Z, hZ⟩ : ∃ Z, Z = (ccells 0 0 zbl).toArray := ⟨_, rfl⟩
  have Hz := zero26
  rw [← hZ] at Hz
  have hB0 : Blk ((w.alloc (.cells C 26)).alloc (.cells Z 26)) w.heap.size C 26 := (Blk.new _ _ _ _ rfl).alloc _
  have hcE : ((w.alloc (.cells C 26)).alloc (.cells Z 26)).cell? ⟨w.heap.size, 2 + E, none⟩ = some (.int .u8 ((bs.getD E 0 : Nat) : Int)) := hB0.cell (by rw [hC]; exact hb.cget n k hE1)
  have hf := hB0.fro (2 + E)
  have hD : C.setIfInBounds (2 + E) (.int .u8 c) = (ccells n k (setAt bs i j c)).toArray := by rw [hset, hC, hx, ccells_set]
  obtain ⟨D, hDD⟩ : ∃ D, D = (ccells n k (setAt bs i j c)).toArray := ⟨_, rfl⟩
  rw [← hDD] at hD
  have hB : Blk ((w.alloc (.cells (C.setIfInBounds (2 + E) (.int .u8 c)) 26)).alloc (.cells Z 26)) w.heap.size D 26 := by rw [← hD]; exact (Blk.new _ _ _ _ rfl).alloc _
  have hBz2 : Blk ((w.alloc (.cells (C.setIfInBounds (2 + E) (.int .u8 c)) 26)).alloc (.cells Z 26)) (w.heap.size + 1) Z 26 := Blk.new _ _ _ _ (by simp)
  have hbe : Below w.heap.size w ((w.alloc (.cells (C.setIfInBounds (2 + E) (.int .u8 c)) 26)).alloc (.cells Z 26)) := ((Below.refl _ _).alloc (Nat.le_refl _) _).alloc (by simp) _
  have hbf := below_setRow hbe (g := w.heap.size + 1) (by omega) D
  have hBr := hBz2.rowSame D
  have hbs : Bys (setAt bs i j c) := setAt_bys hb i j hc0 hc1
  have G := hidd (And.intro hB (And.intro hBz2 (And.intro hBr hbf)))
  have HS := hidd (show (Try.prog.info? 26).map (·.size) = some D.size by rw [hDD]; exact size_c26 n k hbs)
  have HO := hidd (show Z.size = D.size by rw [hDD, hZ]; exact size_cc _ _ _ _ zbl_bys hbs)
  have H1 := hidd (show D.all (·.oneCell') = true by rw [hDD]; exact ccells_one _ _ _)
  have HE := hidd hE
  have hi' : i ≤ 16 := by omega
  have hj' : j ≤ 16 := by omega
  rw [← hC, ← hDD]
  clear hE hx hset hC hZ hDD hD hB hBz2 hbe hbf hBr hB0 h1 h2 h3
  go_enter Try.func60, Try.ntmps60
  go_wp2_with (first
    | (go_at_call 79; refine (edge79 _ _ _ hi0 hi' hj0 hj').mono ?_; rintro e w' ⟨rfl, rfl⟩; rw [HE.out])
    | (refine wpList_load_row rfl 26 (.tmp 4) rfl w.heap.size rfl 26 _ (0,0) _ G.out.1 Try.underlying26 rfl HS.out ?_)
    | (refine wpList_store_row rfl 26 (.tmp 8) (.tmp 16) rfl (w.heap.size + 1) _ rfl rfl 26 _ G.out.2.1 HS.out HO.out H1.out ?_))
  refine bodyPost_ret (results_cell_row rfl _ _ (w.heap.size + 1) 26 _ (0,0) _ rfl G.out.2.2.1 Try.underlying26 rfl HS.out) rfl ⟨rfl, G.out.2.2.2⟩
/-- How a function ends that returns a colouring and a code: the result's row and the code's slot. -/
theorem ret_col {fn : Func} {p u : Tmp} (h : fn.results = #[.cell p 26, .tmp u]) {tmps : Array Value} {w : World} {R : Ending → World → Prop} {g : Nat} {t : TypeId} {n k : Int} {bs : List Nat} (hb : Bys bs) {d : List Deferred}
    (hp : tmps.getD p undef = .pointer (some ⟨g, 0, none⟩)) (hg : Blk w g (ccells n k bs).toArray t) (hd : d = []) {v : Value} (hv : v = .tuple #[.agg (ccells n k bs).toArray, tmps.getD u undef]) (hR : R (.returned v) w) :
    bodyPost Try.prog fn R .ret ⟨tmps, d⟩ w := by
  subst hv
  exact bodyPost_ret (results_row_tmp h tmps w g t _ _ hp hg Try.underlying26 rfl (size_c26 n k hb)) hd hR
theorem after3 {w w1 : World} {C Z : Array Value} {t : TypeId} {o : Obj} (hb1 : Below (((w.alloc (.cells C t)).alloc (.cells Z 26)).alloc o).heap.size (((w.alloc (.cells C t)).alloc (.cells Z 26)).alloc o) w1) :
    Blk w1 w.heap.size C t ∧ Blk w1 (w.heap.size + 1) Z 26 ∧ Below w.heap.size w w1 :=
  ⟨(((Blk.new w C t _ rfl).alloc _).alloc _).below hb1 (by simp; omega), ((Blk.new _ Z 26 _ (by simp)).alloc _).below hb1 (by simp),
    ((((Below.refl _ _).alloc (Nat.le_refl _) _).alloc (by simp) _).alloc (by simp; omega) _).trans (hb1.mono (by simp; omega))⟩
set_option maxRecDepth 100000 in
set_option maxHeartbeats 1000000 in
theorem spec25 (n k : Int) (bs : List Nat) (hb : Bys bs) (i j c : Int) (w : World) :
    Calls Try.prog 25 #[.agg (ccells n k bs).toArray, .int .i64 i, .int .i64 j, .int .i64 c] w fun e w' => e = .returned (chOut n k bs i j c) ∧ Below w.heap.size w w' := by
  have HS := hidd (size_c26 n k hb)
  have Hz := zero26
  have HZS := hidd size_z26
  have HZ1 := hidd (ccells_one 0 0 zbl)
  cases hi : isCol n k bs with
  | false =>
    have H := hidd (chOut_bad (codeC_1 (i := i) (j := j) (c := c) hi) (by omega))
    have HG := hidd (given_1 (c := c) (zs := [i, j]) hi)
    clear hi
    go_enter Try.func25, Try.ntmps25
    go_wp2_with (refine wpList_load_row rfl 26 (.tmp 4) rfl w.heap.size rfl 26 _ (0,0) _ ((Blk.new _ _ _ _ rfl).alloc _) Try.underlying26 rfl HS.out ?_)
    refine (given56 n k bs hb c [i, j] (some ⟨w.heap.size + 1 + 1, 0, none⟩) 2 _ (sl2 _ i j _ _ (by simp)) (by simp)).mono ?_
    rintro e w1 ⟨rfl, hb1⟩
    rw [HG.out]
    obtain ⟨g0, g1, g2⟩ := after3 hb1
    have G := hidd (And.intro g1 (And.intro (g1.rowSame (ccells 0 0 zbl).toArray) (below_setRow g2 (g := w.heap.size + 1) (by omega) (ccells 0 0 zbl).toArray)))
    clear hb1 g0 g1 g2
    go_wp2_with (first
      | (refine wpList_zero26 rfl rfl ?_)
      | (refine wpList_store_row rfl 26 (.tmp 8) (.tmp 26) rfl (w.heap.size + 1) _ rfl rfl 26 _ G.out.1 HZS.out rfl HZ1.out ?_))
    exact ret_col rfl zbl_bys rfl G.out.2.1 rfl rfl ⟨by rw [H.out]; rfl, G.out.2.2⟩
  | true =>
    have HI := hidd hi
    obtain ⟨n1, n2, k1, k2⟩ := isCol_bd hi
    cases ha : (belowB c k && allB [i, j] n) with
    | false =>
      have H := hidd (chOut_bad (codeC_2 (i := i) (j := j) (c := c) hi (by
        rw [Bool.and_eq_false_iff] at ha ⊢
        rcases ha with ha | ha
        · exact .inr ha
        · exact .inl (pair_not ha))) (by omega))
      have HG := hidd (given_2 (c := c) (zs := [i, j]) hi ha)
      clear hi ha
      go_enter Try.func25, Try.ntmps25
      go_wp2_with (refine wpList_load_row rfl 26 (.tmp 4) rfl w.heap.size rfl 26 _ (0,0) _ ((Blk.new _ _ _ _ rfl).alloc _) Try.underlying26 rfl HS.out ?_)
      refine (given56 n k bs hb c [i, j] (some ⟨w.heap.size + 1 + 1, 0, none⟩) 2 _ (sl2 _ i j _ _ (by simp)) (by simp)).mono ?_
      rintro e w1 ⟨rfl, hb1⟩
      rw [HG.out]
      obtain ⟨g0, g1, g2⟩ := after3 hb1
      have G := hidd (And.intro g1 (And.intro (g1.rowSame (ccells 0 0 zbl).toArray) (below_setRow g2 (g := w.heap.size + 1) (by omega) (ccells 0 0 zbl).toArray)))
      clear hb1 g0 g1 g2
      go_wp2_with (first
        | (refine wpList_zero26 rfl rfl ?_)
        | (refine wpList_store_row rfl 26 (.tmp 8) (.tmp 26) rfl (w.heap.size + 1) _ rfl rfl 26 _ G.out.1 HZS.out rfl HZ1.out ?_))
      exact ret_col rfl zbl_bys rfl G.out.2.1 rfl rfl ⟨by rw [H.out]; rfl, G.out.2.2⟩
    | true =>
      rw [Bool.and_eq_true] at ha
      have HG := hidd (given_0 (c := c) (zs := [i, j]) hi ha.1 ha.2)
      by_cases hij : i = j
      · subst hij
        have H := hidd (chOut_bad (codeC_2 (i := i) (j := i) (c := c) hi (by rw [pairB_no3]; rfl)) (by omega))
        have hz : (i == i) = true := by simp
        clear hi ha
        go_enter Try.func25, Try.ntmps25
        go_wp2_with (refine wpList_load_row rfl 26 (.tmp 4) rfl w.heap.size rfl 26 _ (0,0) _ ((Blk.new _ _ _ _ rfl).alloc _) Try.underlying26 rfl HS.out ?_)
        refine (given56 n k bs hb c [i, i] (some ⟨w.heap.size + 1 + 1, 0, none⟩) 2 _ (sl2 _ i i _ _ (by simp)) (by simp)).mono ?_
        rintro e w1 ⟨rfl, hb1⟩
        rw [HG.out]
        obtain ⟨g0, g1, g2⟩ := after3 hb1
        have G := hidd (And.intro g1 (And.intro (g1.rowSame (ccells 0 0 zbl).toArray) (below_setRow g2 (g := w.heap.size + 1) (by omega) (ccells 0 0 zbl).toArray)))
        clear hb1 g0 g1 g2
        go_wp2_with (first
          | (refine wpList_zero26 rfl rfl ?_)
          | (refine wpList_store_row rfl 26 (.tmp 8) (.tmp 26) rfl (w.heap.size + 1) _ rfl rfl 26 _ G.out.1 HZS.out rfl HZ1.out ?_))
        exact ret_col rfl zbl_bys rfl G.out.2.1 rfl rfl ⟨by rw [H.out]; rfl, G.out.2.2⟩
      · have hp := pair_of ha.2 hij
        have H := hidd (chOut_good (codeC_0 hi hp ha.1))
        obtain ⟨p1, p2, p3, p4, _⟩ := pairB_bd hp
        obtain ⟨q1, q2⟩ := inB_bd ha.1
        have q2 : c < 256 := by omega
        have hz : (i == j) = false := by simpa using hij
        have HJ := hidd hij
        have HS2 := hidd (size_c26 n k (setAt_bys hb i j q1 q2))
        have HO2 := hidd (size_cc 0 0 n k zbl_bys (setAt_bys hb i j q1 q2))
        have HA2 := hidd (ccells_one n k (setAt bs i j c))
        clear hi ha hp hij
        go_enter Try.func25, Try.ntmps25
        go_wp2_with (refine wpList_load_row rfl 26 (.tmp 4) rfl w.heap.size rfl 26 _ (0,0) _ ((Blk.new _ _ _ _ rfl).alloc _) Try.underlying26 rfl HS.out ?_)
        refine (given56 n k bs hb c [i, j] (some ⟨w.heap.size + 1 + 1, 0, none⟩) 2 _ (sl2 _ i j _ _ (by simp)) (by simp)).mono ?_
        rintro e w1 ⟨rfl, hb1⟩
        rw [HG.out]
        obtain ⟨g0, g1, g2⟩ := after3 hb1
        have G := hidd (And.intro g0 (And.intro g1 g2))
        clear hb1 g0 g1 g2
        go_wp2_with (refine wpList_load_row rfl 26 (.tmp 4) rfl w.heap.size rfl 26 _ (0,0) _ G.out.1 Try.underlying26 rfl HS.out ?_)
        refine (with60 n k bs hb n i j c _ n2 p1 p2 p3 p4 HJ.out q1 q2).mono ?_
        rintro e w2 ⟨rfl, hb2⟩
        have g1 := G.out.2.1.below hb2 (G.out.2.1.lt)
        have g2 := G.out.2.2.trans (hb2.mono G.out.2.2.size)
        have K := hidd (And.intro g1 (And.intro (g1.rowSame (ccells n k (setAt bs i j c)).toArray) (below_setRow g2 (g := w.heap.size + 1) (by omega) (ccells n k (setAt bs i j c)).toArray)))
        clear hb2 g1 g2
        go_wp2_with (refine wpList_store_row rfl 26 (.tmp 8) (.tmp 32) rfl (w.heap.size + 1) _ rfl rfl 26 _ K.out.1 HS2.out HO2.out HA2.out ?_)
        exact ret_col rfl (setAt_bys hb i j q1 q2) rfl K.out.2.1 rfl rfl ⟨by rw [H.out]; rfl, K.out.2.2⟩
theorem after2 {w w1 : World} {C Z : Array Value} {t : TypeId} (hb1 : Below ((w.alloc (.cells C t)).alloc (.cells Z 26)).heap.size ((w.alloc (.cells C t)).alloc (.cells Z 26)) w1) :
    Blk w1 w.heap.size C t ∧ Blk w1 (w.heap.size + 1) Z 26 ∧ Below w.heap.size w w1 :=
  ⟨((Blk.new w C t _ rfl).alloc _).below hb1 (by simp; omega), (Blk.new _ Z 26 _ (by simp)).below hb1 (by simp),
    (((Below.refl _ _).alloc (Nat.le_refl _) _).alloc (by simp) _).trans (hb1.mono (by simp; omega))⟩
set_option maxRecDepth 100000 in
set_option maxHeartbeats 1000000 in
theorem impl26 (n k : Int) (bs : List Nat) (hb : Bys bs) (i j c : Int) (w : World) :
    Calls Try.prog 26 #[.agg (ccells n k bs).toArray, .int .i64 i, .int .i64 j, .int .i64 c] w fun e w' => e = .returned (chOut n k bs i j c) ∧ Below w.heap.size w w' := by
  have HS := hidd (size_c26 n k hb)
  have Hz := zero26
  have HZS := hidd size_z26
  have HZ1 := hidd (ccells_one 0 0 zbl)
  have HC0 := hidd (show (ccells n k bs).toArray[0]? = some (.int .i64 n) from rfl)
  have HC1 := hidd (show (ccells n k bs).toArray[1]? = some (.int .i64 k) from rfl)
  cases hi : isCol n k bs with
  | false =>
    have H := hidd (chOut_bad (codeC_1 (i := i) (j := j) (c := c) hi) (by omega))
    have HI := hidd hi
    clear hi
    go_enter Try.func26, Try.ntmps26
    go_wp2_with (refine wpList_load_row rfl 26 (.tmp 4) rfl w.heap.size rfl 26 _ (0,0) _ ((Blk.new _ _ _ _ rfl).alloc _) Try.underlying26 rfl HS.out ?_)
    refine (implIs_any n k bs hb _).mono ?_
    rintro e w1 ⟨rfl, hb1⟩
    rw [HI.out]
    obtain ⟨g0, g1, g2⟩ := after2 hb1
    have G := hidd (And.intro g1 (And.intro (g1.rowSame (ccells 0 0 zbl).toArray) (below_setRow g2 (g := w.heap.size + 1) (by omega) (ccells 0 0 zbl).toArray)))
    clear hb1 g0 g1 g2
    go_wp2_with (first
      | (refine wpList_zero26 rfl rfl ?_)
      | (refine wpList_store_row rfl 26 (.tmp 8) (.tmp 13) rfl (w.heap.size + 1) _ rfl rfl 26 _ G.out.1 HZS.out rfl HZ1.out ?_))
    exact ret_col rfl zbl_bys rfl G.out.2.1 rfl rfl ⟨by rw [H.out]; rfl, G.out.2.2⟩
  | true =>
    have HI := hidd hi
    obtain ⟨n1, n2, k1, k2⟩ := isCol_bd hi
    cases hp : pairB i j n with
    | false =>
      have H := hidd (chOut_bad (codeC_2 (i := i) (j := j) (c := c) hi (by rw [hp]; rfl)) (by omega))
      have HP := hidd hp
      clear hi hp
      go_enter Try.func26, Try.ntmps26
      go_wp2_with (refine wpList_load_row rfl 26 (.tmp 4) rfl w.heap.size rfl 26 _ (0,0) _ ((Blk.new _ _ _ _ rfl).alloc _) Try.underlying26 rfl HS.out ?_)
      refine (implIs_any n k bs hb _).mono ?_
      rintro e w1 ⟨rfl, hb1⟩
      rw [HI.out]
      obtain ⟨g0, g1, g2⟩ := after2 hb1
      have G := hidd (And.intro g1 (And.intro (g1.rowSame (ccells 0 0 zbl).toArray) (below_setRow g2 (g := w.heap.size + 1) (by omega) (ccells 0 0 zbl).toArray)))
      have c0 := g0.cell HC0.out
      have c1 := g0.cell HC1.out
      clear hb1 g0 g1 g2
      go_wp2_with (first
        | (refine wpList_zero26 rfl rfl ?_)
        | (refine wpList_store_row rfl 26 (.tmp 8) (.tmp 27) rfl (w.heap.size + 1) _ rfl rfl 26 _ G.out.1 HZS.out rfl HZ1.out ?_)
        | (go_at_call 58; refine (pair58 _ _ _ _).mono ?_; rintro e w' ⟨rfl, rfl⟩; rw [HP.out]))
      exact ret_col rfl zbl_bys rfl G.out.2.1 rfl rfl ⟨by rw [H.out]; rfl, G.out.2.2⟩
    | true =>
      have HP := hidd hp
      cases hq : belowB c k with
      | false =>
        have H := hidd (chOut_bad (codeC_2 (i := i) (j := j) (c := c) hi (by rw [hp, hq]; rfl)) (by omega))
        have HQ := hidd hq
        clear hi hp hq
        go_enter Try.func26, Try.ntmps26
        go_wp2_with (refine wpList_load_row rfl 26 (.tmp 4) rfl w.heap.size rfl 26 _ (0,0) _ ((Blk.new _ _ _ _ rfl).alloc _) Try.underlying26 rfl HS.out ?_)
        refine (implIs_any n k bs hb _).mono ?_
        rintro e w1 ⟨rfl, hb1⟩
        rw [HI.out]
        obtain ⟨g0, g1, g2⟩ := after2 hb1
        have G := hidd (And.intro g1 (And.intro (g1.rowSame (ccells 0 0 zbl).toArray) (below_setRow g2 (g := w.heap.size + 1) (by omega) (ccells 0 0 zbl).toArray)))
        have c0 := g0.cell HC0.out
        have c1 := g0.cell HC1.out
        clear hb1 g0 g1 g2
        go_wp2_with (first
          | (refine wpList_zero26 rfl rfl ?_)
          | (refine wpList_store_row rfl 26 (.tmp 8) (.tmp 27) rfl (w.heap.size + 1) _ rfl rfl 26 _ G.out.1 HZS.out rfl HZ1.out ?_)
          | (go_at_call 58; refine (pair58 _ _ _ _).mono ?_; rintro e w' ⟨rfl, rfl⟩; rw [HP.out])
          | (go_at_call 61; refine (below61 _ _ _).mono ?_; rintro e w' ⟨rfl, rfl⟩; rw [HQ.out]))
        exact ret_col rfl zbl_bys rfl G.out.2.1 rfl rfl ⟨by rw [H.out]; rfl, G.out.2.2⟩
      | true =>
        have HQ := hidd hq
        have H := hidd (chOut_good (codeC_0 hi hp hq))
        obtain ⟨p1, p2, p3, p4, hij⟩ := pairB_bd hp
        obtain ⟨q1, q2⟩ := inB_bd hq
        have q2 : c < 256 := by omega
        have r1 : i ≤ 16 := by omega
        have r2 : j ≤ 16 := by omega
        have HJ := hidd hij
        have HS2 := hidd (size_c26 n k (setAt_bys hb i j q1 q2))
        have HO2 := hidd (size_cc 0 0 n k zbl_bys (setAt_bys hb i j q1 q2))
        have HA2 := hidd (ccells_one n k (setAt bs i j c))
        obtain ⟨h1, h2, h3⟩ := eix_bd n2 p1 p2 p3 p4 hij
        obtain ⟨E, hE⟩ := Int.eq_ofNat_of_zero_le h1
        obtain ⟨x, hx⟩ := Int.eq_ofNat_of_zero_le q1
        have hE1 : E < 136 := by omega
        have hwr : IntKind.u8.wrap c = c := u8_in q1 q2
        have HE := hidd hE
        have HCE := hidd (hb.cget n k hE1)
        have HD := hidd (show (ccells n k bs).toArray.setIfInBounds (2 + E) (.int .u8 c) = (ccells n k (setAt bs i j c)).toArray by
          rw [hx, ccells_set]; unfold setAt; rw [hE]; simp)
        clear hi hp hq hij hE hx h1 h2 h3
        go_enter Try.func26, Try.ntmps26
        go_wp2_with (refine wpList_load_row rfl 26 (.tmp 4) rfl w.heap.size rfl 26 _ (0,0) _ ((Blk.new _ _ _ _ rfl).alloc _) Try.underlying26 rfl HS.out ?_)
        refine (implIs_any n k bs hb _).mono ?_
        rintro e w1 ⟨rfl, hb1⟩
        rw [HI.out]
        obtain ⟨g0, g1, g2⟩ := after2 hb1
        have c0 := g0.cell HC0.out
        have c1 := g0.cell HC1.out
        have cE := g0.cell HCE.out
        have fE := g0.fro (2 + E)
        have s0 := g0.same (2 + E) (.int .u8 c)
        rw [HD.out] at s0
        have s1 := g1.other ⟨w.heap.size, 2 + E, none⟩ (.int .u8 c) (by show w.heap.size + 1 ≠ w.heap.size; omega)
        have s2 := g2.setCell (p := ⟨w.heap.size, 2 + E, none⟩) (Nat.le_refl _) (.int .u8 c)
        have K := hidd (And.intro s0 (And.intro s1 (And.intro (s1.rowSame (ccells n k (setAt bs i j c)).toArray) (below_setRow s2 (g := w.heap.size + 1) (by omega) (ccells n k (setAt bs i j c)).toArray))))
        clear hb1 g0 g1 g2 s0 s1 s2
        go_wp2_with (first
          | (go_at_call 58; refine (pair58 _ _ _ _).mono ?_; rintro e w' ⟨rfl, rfl⟩; rw [HP.out])
          | (go_at_call 61; refine (below61 _ _ _).mono ?_; rintro e w' ⟨rfl, rfl⟩; rw [HQ.out])
          | (go_at_call 54; refine (edge54 _ _ _ HJ.out p1 r1 p3 r2).mono ?_; rintro e w' ⟨rfl, rfl⟩; rw [HE.out])
          | (refine wpList_load_row rfl 26 (.tmp 4) rfl w.heap.size rfl 26 _ (0,0) _ K.out.1 Try.underlying26 rfl HS2.out ?_)
          | (refine wpList_store_row rfl 26 (.tmp 8) (.tmp 35) rfl (w.heap.size + 1) _ rfl rfl 26 _ K.out.2.1 HS2.out HO2.out HA2.out ?_))
        exact ret_col rfl (setAt_bys hb i j q1 q2) rfl K.out.2.2.1 rfl rfl ⟨by rw [H.out]; rfl, K.out.2.2.2⟩
end Go.Proofs.Ytjdniepheghpkaa
