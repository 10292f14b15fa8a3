/- graphOf: the points of a colouring and the sets of neighbours in one colour. -/
import Derived.Test.YtkiocedhibeieaaDoorHi
namespace Go.Proofs.YtkiocedhibeieaaDoor
set_option linter.unusedVariables false
set_option linter.unusedSimpArgs false
open Go Go.RowKit Go.Shelf
/-- A graph's cells. -/
def gcell (x : Nat) (f : Nat → Nat) : List Value := .int .u32 (x : Int) :: ncell f
theorem gcell_len (x : Nat) (f : Nat → Nat) : (gcell x f).length = 18 := by simp [gcell, ncell]
theorem gcell_near {x : Nat} {f : Nat → Nat} {p : Nat} (h : p < 17) : (gcell x f).toArray[1 + p]? = some (.int .u32 (f p : Int)) := by
  have := ncell_get (f := f) h
  rw [List.getElem?_toArray] at this ⊢
  rw [show gcell x f = .int .u32 (x : Int) :: ncell f from rfl, Nat.add_comm, List.getElem?_cons_succ]; exact this
theorem gcell_one (x : Nat) (f : Nat → Nat) : (gcell x f).toArray.all (·.oneCell') = true := by
  rw [Array.all_eq_true_iff_forall_mem]
  intro v hv
  rw [List.mem_toArray] at hv
  rcases List.mem_cons.1 hv with rfl | hv
  · rfl
  · obtain ⟨p, _, rfl⟩ := List.mem_map.1 hv; rfl
theorem info79 : (Tryd.prog.info? 79).map (fun i => (i.zero, i.size)) = some (some (.agg (gcell 0 fun _ => 0).toArray), 18) := by kernel_rfl
theorem zero79 : ∀ w, (zeroValue 79).run Tryd.prog w = .ok (.agg (gcell 0 fun _ => 0).toArray) w := (zero_of_info info79).1
theorem size79 (x : Nat) (f : Nat → Nat) : (Tryd.prog.info? 79).map (·.size) = some (gcell x f).toArray.size := by rw [(zero_of_info info79).2]; simp [gcell_len]
theorem built79z : Tryd.prog.built 79 [] = some (gcell 0 fun _ => 0).toArray := by kernel_rfl
theorem built79 (x : Nat) (f : Nat → Nat) : Tryd.prog.built 79 [(0, .int .u32 (x : Int)), (1, .agg (ncell f).toArray)] = some (gcell x f).toArray := by kernel_rfl
theorem parts2 (a : Act) (x y : Operand) : ((#[(0, x), (1, y)] : Array (Nat × Operand)).map fun (i, z) => (i, a.eval z)).toList = [(0, a.eval x), (1, a.eval y)] := by simp
theorem wp_build79 {o : Oper} {a : Act} {w : World} {K : Act → World → Prop} {Q : Exit → Act → World → Prop} (x y : Operand) (ho : o.op = .build 79 #[(0, x), (1, y)]) (U : Nat) (f : Nat → Nat) (hx : a.eval x = .int .u32 (U : Int)) (hy : a.eval y = .agg (ncell f).toArray)
    (h : K (a.put o.dst (.agg (gcell U f).toArray)) w) : o.wp Tryd.prog a w K Q := by
  obtain ⟨Z, hZ⟩ : ∃ Z, Z = (gcell U f).toArray := ⟨_, rfl⟩
  have hb := built79 U f
  rw [← hZ] at h hb
  clear hZ
  refine wp_build 79 _ ho ?_ ?_
  · rw [parts2, hx, hy, hb]; rfl
  · rw [parts2, hx, hy, hb]; exact h
/-- The graph of a colour: its points, its sets of neighbours. -/
def grA (n k : Int) (bs : List Nat) (c : Int) : Nat := if given n k bs c [] = 0 then 2 ^ n.toNat - 1 else 0
def grF (n k : Int) (bs : List Nat) (c : Int) : Nat → Nat := if given n k bs c [] = 0 then nsF bs c (eseq n.toNat) else fun _ => 0
set_option maxRecDepth 100000 in
set_option maxHeartbeats 2000000 in
theorem graph63_0 (N : Nat) (k c : Int) (bs : List Nat) (hb : Bys bs) (w : World) (N1 : 1 ≤ N) (N2 : N ≤ 17) (hi : isCol (N : Int) k bs = true) (hc : belowB c k = true) :
    Calls Tryd.prog 63 #[.agg (ccells (N : Int) k bs).toArray, .int .i64 c] w fun e w' => e = .returned (.tuple #[.agg (gcell (2 ^ N - 1) (nsF bs c (eseq N))).toArray, .int .i64 0]) ∧ Below w.heap.size w w' := by
  have HS := hidd (size_c26 (N : Int) k hb)
  have HN := hidd (fun W => near57 N k c bs hb W N1 N2)
  have HI := hidd hi
  have HC := hidd hc
  have HC0 := hidd (show (ccells (N : Int) k bs).toArray[0]? = some (.int .i64 (N : Int)) from rfl)
  have HC1 := hidd (show (ccells (N : Int) k bs).toArray[1]? = some (.int .i64 k) from rfl)
  have Hz := zero79
  obtain ⟨F, hF⟩ : ∃ F, F = nsF bs c (eseq N) := ⟨_, rfl⟩
  rw [← hF] at HN ⊢
  obtain ⟨Y, hY⟩ : ∃ Y : Nat, Y = 2 ^ N := ⟨_, rfl⟩
  have hY17 : Y ≤ 2 ^ 17 := by rw [hY]; exact Nat.pow_le_pow_right (by omega) N2
  have hY1 : 1 ≤ Y := by rw [hY]; exact Nat.one_le_two_pow
  have hsh : IntKind.u32.wrap (2 ^ N) = (Y : Int) := by rw [show (2 : Int) ^ N = ((2 ^ N : Nat) : Int) by simp, ← hY, wrap_u32]; omega
  have hmn : min N 32 = N := by omega
  obtain ⟨FU, hFU⟩ : ∃ FU, FU = Y - 1 := ⟨_, rfl⟩
  have hfu : IntKind.u32.wrap ((Y : Int) - 1) = (FU : Int) := by rw [wrap_u32]; omega
  have HB := hidd (built79 FU F)
  rw [← hY, ← hFU]
  have HRG := hidd (fun W (h : Blk W w.heap.size (ccells (N : Int) k bs).toArray 28 ∧ W.cell? ⟨w.heap.size, 0, none⟩ = some (.int .i64 (N : Int))) => h.1.range 0 (ccells (N : Int) k bs) (fun j v hj => by simpa using hj))
  have HSZ := hidd (show (Tryd.prog.info? 28).map (·.size) = some (ccells (N : Int) k bs).length by rw [HS.out]; simp)
  have HCB := hidd (fun W (h : Blk W w.heap.size (ccells (N : Int) k bs).toArray 28) => (And.intro h (h.cell HC0.out) : Blk W w.heap.size (ccells (N : Int) k bs).toArray 28 ∧ W.cell? ⟨w.heap.size, 0, none⟩ = some (.int .i64 (N : Int))))
  clear hi hc hF hY hFU
  have H3 := hidd (show Blk ((w.alloc (.cells (ccells (N : Int) k bs).toArray 28)).alloc (.cells (gcell 0 fun _ => 0).toArray 79)) w.heap.size (ccells (N : Int) k bs).toArray 28 ∧ Blk ((w.alloc (.cells (ccells (N : Int) k bs).toArray 28)).alloc (.cells (gcell 0 fun _ => 0).toArray 79)) (w.heap.size + 1) (gcell 0 fun _ => 0).toArray 79 ∧ Below w.heap.size w ((w.alloc (.cells (ccells (N : Int) k bs).toArray 28)).alloc (.cells (gcell 0 fun _ => 0).toArray 79)) from
    ⟨(Blk.new _ _ _ _ rfl).alloc _, Blk.new _ _ _ _ (by simp), ((Below.refl _ _).alloc (Nat.le_refl _) _).alloc (by simp) _⟩)
  go_enter Tryd.func63, Tryd.ntmps63
  go_wp2_with (refine wpList_load_row rfl 28 (.tmp 2) rfl w.heap.size rfl 28 _ (0,0) _ H3.out.1 Tryd.underlying28 rfl HS.out ?_)
  refine (implIs_any (N : Int) k bs hb _).mono ?_
  rintro e w1 ⟨rfl, hb1⟩
  rw [HI.out]
  have G := hidd (show Blk w1 w.heap.size (ccells (N : Int) k bs).toArray 28 ∧ Blk w1 (w.heap.size + 1) (gcell 0 fun _ => 0).toArray 79 ∧ Below w.heap.size w w1 from ⟨H3.out.1.below hb1 H3.out.1.lt, H3.out.2.1.below hb1 H3.out.2.1.lt, H3.out.2.2.trans (hb1.mono H3.out.2.2.size)⟩)
  have c1 := G.out.1.cell HC1.out
  clear hb1
  go_wp2_with fail
  refine (below61 _ _ _).mono ?_
  rintro e w' ⟨rfl, rfl⟩
  rw [HC.out]
  go_wp2_with fail
  refine wp_region_held_drew (S := (fun W => Blk W w.heap.size (ccells (N : Int) k bs).toArray 28 ∧ W.cell? ⟨w.heap.size, 0, none⟩ = some (.int .i64 (N : Int)))) (by kernel_rfl) ?_ (fun hHeld => ?_)
  · exact HCB.out _ G.out.1
  refine wpAnyH_take (i := 0) (oi := _) (v := ?_) rfl (by kernel_rfl) (by kernel_rfl) (by kernel_rfl) (fun _ _ _ h => h) (Or.inl ⟨by rfl, ?_⟩) (by assumption) ?_
  rotate_left
  · intro wX hSw; (try dsimp only at hSw); go_simp; first | done | with_reducible rfl
  simp only [List.getElem_toArray, List.getElem_cons_succ, List.getElem_cons_zero, Act.put, List.setIfInBounds_toArray, List.set_cons_zero, List.set_cons_succ]
  refine wpAnyH_take (i := 1) (oi := _) (v := ?_) rfl (by kernel_rfl) (by kernel_rfl) (by kernel_rfl) (fun _ _ _ h => h) (Or.inl ⟨by rfl, ?_⟩) (by assumption) ?_
  rotate_left
  · intro wX hSw; (try dsimp only at hSw); go_simp; first | done | with_reducible rfl
  simp only [List.getElem_toArray, List.getElem_cons_succ, List.getElem_cons_zero, Act.put, List.setIfInBounds_toArray, List.set_cons_zero, List.set_cons_succ]
  refine wpAnyH_take (i := 2) (oi := _) (v := ?_) rfl (by kernel_rfl) (by kernel_rfl) (by kernel_rfl) (fun _ _ _ h => h) (Or.inl ⟨by rfl, ?_⟩) (by assumption) ?_
  rotate_left
  · intro wX hSw; (try dsimp only at hSw); go_simp; first | done | with_reducible rfl
  simp only [List.getElem_toArray, List.getElem_cons_succ, List.getElem_cons_zero, Act.put, List.setIfInBounds_toArray, List.set_cons_zero, List.set_cons_succ]
  refine wpAnyH_take (i := 3) (oi := _) (v := ?_) rfl (by kernel_rfl) (by kernel_rfl) (by kernel_rfl) (fun _ _ _ h => h) (Or.inl ⟨by rfl, ?_⟩) (by assumption) ?_
  rotate_left
  · intro wX hSw; (try dsimp only at hSw); go_simp; first | done | with_reducible rfl
  simp only [List.getElem_toArray, List.getElem_cons_succ, List.getElem_cons_zero, Act.put, List.setIfInBounds_toArray, List.set_cons_zero, List.set_cons_succ]
  refine wpAnyH_take (i := 4) (oi := _) (v := _) rfl (by kernel_rfl) (by kernel_rfl) (by kernel_rfl) (fun _ _ _ h => h) (yieldsIf_load_mid (by rfl) _ _ rfl _ _ rfl _ _ (HRG.out) Tryd.underlying28 rfl (HSZ.out)) (by assumption) ?_
  simp only [List.getElem_toArray, List.getElem_cons_succ, List.getElem_cons_zero, Act.put, List.setIfInBounds_toArray, List.set_cons_zero, List.set_cons_succ]
  refine wpAnyH_take (i := 5) (oi := _) (v := ?_) rfl (by kernel_rfl) (by kernel_rfl) (by kernel_rfl) (fun _ _ _ h => h) (Or.inl ⟨by rfl, ?_⟩) (by assumption) ?_
  rotate_left
  · intro wX hSw; (try dsimp only at hSw); go_simp; first | done | with_reducible rfl
  simp only [List.getElem_toArray, List.getElem_cons_succ, List.getElem_cons_zero, Act.put, List.setIfInBounds_toArray, List.set_cons_zero, List.set_cons_succ]
  refine wpAnyH_ready (rs := [6]) (by kernel_rfl) (by simp) (AllReadyH.cons (o := _) rfl (fun KQ hKQ => ?_) AllReadyH.nil)
  go_simp
  go_wp2_with (refine (HN.out _).mono ?_; rintro e W1 ⟨rfl, hbY⟩; have hbX : Below w1.heap.size w1 W1 := ((Below.refl w1.heap.size w1).drew).trans hbY)
  have G2 := hidd (show Blk W1 w.heap.size (ccells (N : Int) k bs).toArray 28 ∧ Blk W1 (w.heap.size + 1) (gcell 0 fun _ => 0).toArray 79 ∧ Below w.heap.size w W1 from ⟨G.out.1.below hbX G.out.1.lt, G.out.2.1.below hbX G.out.2.1.lt, G.out.2.2.trans (hbX.mono G.out.2.2.size)⟩)
  clear hbX hbY
  refine hKQ.out _ _ ?_ (fun hNext => ?_)
  · exact HCB.out _ G2.out.1
  clear hKQ KQ hHeld
  have hHeld := hNext
  clear hNext
  refine wpAnyH_ready (rs := [7]) (by kernel_rfl) (by simp) (AllReadyH.cons (o := _) rfl (fun KQ hKQ => ?_) AllReadyH.nil)
  rw [if_pos (by rfl)]
  refine wp_build79 (.tmp 19) (.tmp 22) rfl FU F rfl rfl ?_
  refine hKQ.out _ _ ?_ (fun hNext => ?_)
  · exact HCB.out _ G2.out.1
  clear hKQ KQ hHeld
  have hHeld := hNext
  clear hNext
  simp only [List.getElem_toArray, List.getElem_cons_succ, List.getElem_cons_zero, Act.put, List.setIfInBounds_toArray, List.set_cons_zero, List.set_cons_succ]
  refine wpAnyH_ready (rs := [8]) (by kernel_rfl) (by simp) (AllReadyH.cons (o := _) rfl (fun KQ hKQ => ?_) AllReadyH.nil)
  rw [if_pos (by rfl)]
  refine wp_store_row 79 (.tmp 4) (.tmp 23) rfl (w.heap.size + 1) (gcell FU F).toArray rfl rfl 79 _ G2.out.2.1 (size79 FU F) (by simp [gcell_len]) (gcell_one FU F) ?_
  have G3 := hidd (show Blk (W1.setRow (w.heap.size + 1) (gcell FU F).toArray) w.heap.size (ccells (N : Int) k bs).toArray 28 ∧ Blk (W1.setRow (w.heap.size + 1) (gcell FU F).toArray) (w.heap.size + 1) (gcell FU F).toArray 79 ∧ Below w.heap.size w (W1.setRow (w.heap.size + 1) (gcell FU F).toArray) from
    ⟨G2.out.1.rowOther _ _ (by omega), G2.out.2.1.rowSame _, below_setRow G2.out.2.2 (by omega) _⟩)
  obtain ⟨W3, hW3⟩ : ∃ W3, W3 = W1.setRow (w.heap.size + 1) (gcell FU F).toArray := ⟨_, rfl⟩
  rw [← hW3] at G3 ⊢
  clear hW3
  refine hKQ.out _ _ ?_ (fun hNext => ?_)
  · exact HCB.out _ G3.out.1
  clear hKQ KQ hHeld
  have hHeld := hNext
  clear hNext
  simp only [Act.put, List.setIfInBounds_toArray, List.set_cons_zero, List.set_cons_succ]
  refine wpAnyH_take (i := 9) (oi := _) (v := ?_) rfl (by kernel_rfl) (by kernel_rfl) (by kernel_rfl) (fun _ _ _ h => h) (Or.inl ⟨by rfl, ?_⟩) (by assumption) ?_
  rotate_left
  · intro wX hSw; (try dsimp only at hSw); go_simp; first | done | with_reducible rfl
  simp only [List.getElem_toArray, List.getElem_cons_succ, List.getElem_cons_zero, Act.put, List.setIfInBounds_toArray, List.set_cons_zero, List.set_cons_succ]
  refine wpAnyH_done (by kernel_rfl) ?_ _
  clear hHeld
  go_wp2_with fail
  exact bodyPost_ret (results_row_tmp rfl _ _ (w.heap.size + 1) 79 _ _ rfl G3.out.2.1 Tryd.underlying79 rfl (size79 FU F)) rfl ⟨rfl, G3.out.2.2⟩
theorem wpList_zero79 {ops : Array Oper} {rest : List Oper} {o : Oper} {a : Act} {w : World} {Q : Exit → Act → World → Prop} (hg : o.guard = none) (ho : o.op = .build 79 #[])
    (h : wpList Tryd.prog ops Q rest (a.put o.dst (.agg (gcell 0 fun _ => 0).toArray)) w) : wpList Tryd.prog ops Q (o :: rest) a w := by
  obtain ⟨Z, hZ⟩ : ∃ Z, Z = (gcell 0 fun _ => 0).toArray := ⟨_, rfl⟩
  have hb : Tryd.prog.built 79 [] = some Z := by rw [hZ]; exact built79z
  rw [← hZ] at h
  clear hZ
  have e : ((#[] : Array (Nat × Operand)).map fun (i, x) => (i, a.eval x)).toList = [] := by simp
  refine wpList_build hg 79 #[] ho ?_ ?_
  · rw [e, hb]; rfl
  · rw [e, hb]; exact h
set_option maxRecDepth 100000 in
set_option maxHeartbeats 2000000 in
theorem graph63_e (n k c : Int) (bs : List Nat) (hb : Bys bs) (w : World) (h0 : given n k bs c [] ≠ 0) :
    Calls Tryd.prog 63 #[.agg (ccells n k bs).toArray, .int .i64 c] w fun e w' => e = .returned (.tuple #[.agg (gcell 0 fun _ => 0).toArray, .int .i64 (given n k bs c [])]) ∧ Below w.heap.size w w' := by
  have HS := hidd (size_c26 n k hb)
  have Hz := zero79
  have HC1 := hidd (show (ccells n k bs).toArray[1]? = some (.int .i64 k) from rfl)
  have H3 := hidd (show Blk ((w.alloc (.cells (ccells n k bs).toArray 28)).alloc (.cells (gcell 0 fun _ => 0).toArray 79)) w.heap.size (ccells n k bs).toArray 28 ∧ Blk ((w.alloc (.cells (ccells n k bs).toArray 28)).alloc (.cells (gcell 0 fun _ => 0).toArray 79)) (w.heap.size + 1) (gcell 0 fun _ => 0).toArray 79 ∧ Below w.heap.size w ((w.alloc (.cells (ccells n k bs).toArray 28)).alloc (.cells (gcell 0 fun _ => 0).toArray 79)) from
    ⟨(Blk.new _ _ _ _ rfl).alloc _, Blk.new _ _ _ _ (by simp), ((Below.refl _ _).alloc (Nat.le_refl _) _).alloc (by simp) _⟩)
  cases hi : isCol n k bs with
  | false =>
    rw [given_1 hi]
    have HI := hidd hi
    clear hi h0
    go_enter Tryd.func63, Tryd.ntmps63
    go_wp2_with (refine wpList_load_row rfl 28 (.tmp 2) rfl w.heap.size rfl 28 _ (0,0) _ H3.out.1 Tryd.underlying28 rfl HS.out ?_)
    refine (implIs_any n k bs hb _).mono ?_
    rintro e w1 ⟨rfl, hb1⟩
    rw [HI.out]
    have G := hidd (show Blk w1 (w.heap.size + 1) (gcell 0 fun _ => 0).toArray 79 ∧ Below w.heap.size w w1 from ⟨H3.out.2.1.below hb1 H3.out.2.1.lt, H3.out.2.2.trans (hb1.mono H3.out.2.2.size)⟩)
    clear hb1
    go_wp2_with (first
      | (refine wpList_zero79 rfl rfl ?_)
      | (refine wpList_store_row rfl 79 (.tmp 4) (.tmp 9) rfl (w.heap.size + 1) _ rfl rfl 79 _ G.out.1 (size79 0 fun _ => 0) rfl (gcell_one 0 fun _ => 0) ?_))
    exact bodyPost_ret (results_row_tmp rfl _ _ (w.heap.size + 1) 79 _ _ rfl (G.out.1.rowSame _) Tryd.underlying79 rfl (size79 0 fun _ => 0)) rfl ⟨rfl, below_setRow G.out.2 (by omega) _⟩
  | true =>
    cases hc : belowB c k with
    | true => exact absurd (given_0 hi hc rfl) h0
    | false =>
      rw [given_2 hi (by rw [hc]; rfl)]
      have HI := hidd hi
      have HC := hidd hc
      clear hi h0 hc
      go_enter Tryd.func63, Tryd.ntmps63
      go_wp2_with (refine wpList_load_row rfl 28 (.tmp 2) rfl w.heap.size rfl 28 _ (0,0) _ H3.out.1 Tryd.underlying28 rfl HS.out ?_)
      refine (implIs_any n k bs hb _).mono ?_
      rintro e w1 ⟨rfl, hb1⟩
      rw [HI.out]
      have G := hidd (show Blk w1 (w.heap.size + 1) (gcell 0 fun _ => 0).toArray 79 ∧ Below w.heap.size w w1 from ⟨H3.out.2.1.below hb1 H3.out.2.1.lt, H3.out.2.2.trans (hb1.mono H3.out.2.2.size)⟩)
      have c1 := (H3.out.1.below hb1 H3.out.1.lt).cell HC1.out
      clear hb1
      go_wp2_with fail
      refine (below61 _ _ _).mono ?_
      rintro e w' ⟨rfl, rfl⟩
      rw [HC.out]
      go_wp2_with (first
        | (refine wpList_zero79 rfl rfl ?_)
        | (refine wpList_store_row rfl 79 (.tmp 4) (.tmp 15) rfl (w.heap.size + 1) _ rfl rfl 79 _ G.out.1 (size79 0 fun _ => 0) rfl (gcell_one 0 fun _ => 0) ?_))
      exact bodyPost_ret (results_row_tmp rfl _ _ (w.heap.size + 1) 79 _ _ rfl (G.out.1.rowSame _) Tryd.underlying79 rfl (size79 0 fun _ => 0)) rfl ⟨rfl, below_setRow G.out.2 (by omega) _⟩
end Go.Proofs.YtkiocedhibeieaaDoor
