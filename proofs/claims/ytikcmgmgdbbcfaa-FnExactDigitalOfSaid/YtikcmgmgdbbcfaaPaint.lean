/- A colouring that a rule tells: the program's paint, for every rule that answers and leaves what lay before it. -/
import Derived.Test.YtikcmgmgdbbcfaaCountEdges
import Derived.RangeFuncNested
namespace Go.Proofs.Ytikcmgmgdbbcfaa
set_option linter.unusedVariables false
set_option linter.unusedSimpArgs false
open Go Go.RowKit Go.Shelf
attribute [local go_sem] Oper.semAt_some
section
variable {F : Fence} {n : Nat} {P : Program} {ops : Array Oper} {rest : List Oper} {o : Oper} {a : Act} {w : World} {Q : Exit → Act → World → Prop}
theorem inBuild (hgd : o.guard = none) (t : TypeId) (parts : Array (Nat × Operand)) (ho : o.op = .build t parts) (cells : Array Value)
    (hc : P.built t (parts.map fun (i, x) => (i, a.eval x)).toList = some cells) (h : wpListIn F n P ops Q rest (a.put o.dst (.agg cells)) w) : wpListIn F n P ops Q (o :: rest) a w := by
  refine wpListIn_plain hgd fun K hK => ?_
  unfold Oper.wpIn
  rw [Oper.semAt_eq _ _ _ (fun c h => by rw [ho] at h; cases h)]
  refine ⟨fun f hf => by simp [Oper.about, ho] at hf, ?_⟩
  unfold execOp
  simp only [ho, Sem.run_bind, run_build w t _ cells hc, Result.andThen_ok]
  exact hK _ _ h
end
theorem built26nk (n k : Int) : Try.prog.built 25 [(0, .int .i64 n), (1, .int .i64 k)] = some (ccells n k zbl).toArray := by kernel_rfl
/-- The bytes that a rule gives the edges that have come. -/
def pbF {N : Nat} (r : Nat → Nat → Int) (xs : List (Edg N)) : List Nat := xs.foldl (fun b x => b.set x.1.1 (r x.1.2.1 x.1.2.2).toNat) zbl
theorem pbF_snoc {N : Nat} (r : Nat → Nat → Int) (xs : List (Edg N)) (x : Edg N) : pbF r (xs ++ [x]) = (pbF r xs).set x.1.1 (r x.1.2.1 x.1.2.2).toNat := by simp [pbF]
theorem pbF_bys {N : Nat} {r : Nat → Nat → Int} (hr : ∀ x : Edg N, 0 ≤ r x.1.2.1 x.1.2.2 ∧ r x.1.2.1 x.1.2.2 < 256) (xs : List (Edg N)) : Bys (pbF r xs) := by
  unfold pbF
  suffices h : ∀ b, Bys b → Bys (xs.foldl (fun b x => b.set x.1.1 (r x.1.2.1 x.1.2.2).toNat) b) from h _ zbl_bys
  induction xs with
  | nil => intro b hb; exact hb
  | cons x xs ih => intro b hb; exact ih _ (hb.set _ _ (by have := hr x; omega))
def paintB (N : Nat) (r : Nat → Nat → Int) : List Nat := (eseq N).foldl (fun b t => b.set t.1 (r t.2.1 t.2.2).toNat) zbl
theorem pbF_eq {N : Nat} (r : Nat → Nat → Int) (xs : List (Edg N)) (h : xs.map Edg.v = eseq N) : pbF r xs = paintB N r := by
  unfold paintB pbF
  rw [← h, List.foldl_map]
  rfl
/-- A rule, as a function value: it answers for each edge, in every world in which all that lay in w lies as it lay. -/
def Rule (N : Nat) (g : Nat) (lb : Array Value) (r : Nat → Nat → Int) (w : World) : Prop :=
  ∀ (x : Edg N) (W : World), Below w.heap.size w W → Calls Try.prog g (#[.int .i64 (x.1.2.1 : Int), .int .i64 (x.1.2.2 : Int)] ++ lb) W fun e W' => e = .returned (.int .i64 (r x.1.2.1 x.1.2.2)) ∧ Below W.heap.size W W'
theorem keeps_below {B : Nat} {W W' : World} (h : Below W.heap.size W W') : KeepsFrom B W W' := ⟨h.size, fun k o _ hk _ => (h.block k (Array.getElem?_eq_some_iff.1 hk).1).trans hk⟩
def RelPt {N : Nat} (k : Int) (g : Nat) (lb : Array Value) (r : Nat → Nat → Int) (w : World) (pre : List (Edg N)) (W : World) : Prop :=
  Blk W w.heap.size #[.func (.func g) #[] lb] 57 ∧ Blk W (w.heap.size + 1) (ccells 0 0 zbl).toArray 25 ∧ Blk W (w.heap.size + 1 + 1) (ccells (N : Int) k (pbF r pre)).toArray 25 ∧ Below w.heap.size w W
set_option maxRecDepth 100000 in
set_option maxHeartbeats 1000000 in
theorem paint52 (N : Nat) (k : Int) (g : Nat) (lb : Array Value) (r : Nat → Nat → Int) (w : World) (N1 : 1 ≤ N) (N2 : N ≤ 17) (hr : ∀ x : Edg N, 0 ≤ r x.1.2.1 x.1.2.2 ∧ r x.1.2.1 x.1.2.2 < 256)
    (heg : ∀ args w, (callFunc g args).run Try.prog w = .ok (.enter g args) w) (hR : Rule N g lb r w) :
    Calls Try.prog 86 #[.int .i64 (N : Int), .int .i64 k, .func (.func g) #[] lb] w fun e w' => e = .returned (.agg (ccells (N : Int) k (paintB N r)).toArray) ∧ Below w.heap.size w w' := by
  have Hz := zero26
  have hfn : ∀ f, Fence.wide.fn f := fun _ => trivial
  have hset : ((ccells 0 0 zbl).set 0 (Value.int .i64 (N : Int))).set 1 (Value.int .i64 k) = ccells (N : Int) k zbl := rfl
  have HR := hidd hR
  have HRB := hidd hr
  have HZS := hidd (size_c26 (N : Int) k zbl_bys)
  have HZO := hidd (size_cc 0 0 (N : Int) k zbl_bys zbl_bys)
  have HZA := hidd (ccells_one (N : Int) k zbl)
  clear hR hr
  refine (callsIn_wide (n := 8)).1 (callsIn_of_wp_marks Try.func86 rfl trivial ?_ rfl)
  simp only [Try.ntmps86, List.size_toArray, List.length_cons, List.length_nil, Nat.reduceAdd, Nat.reduceSub, Array.replicate_succ, Array.replicate_zero, List.push_toArray, List.append_toArray, List.nil_append, List.cons_append]
  gi_wp2_with (first
    | (refine inBuild rfl 25 _ rfl _ (built26nk (N : Int) k) ?_)
    | (refine inStoreRow rfl 25 (.tmp 7) (.tmp 12) rfl (w.heap.size + 1 + 1) _ rfl rfl 25 _ (Blk.new _ _ _ _ (by simp)) HZS.out HZO.out HZA.out ?_)
    | (gi_at_call 75; refine (callsIn_wide.2 (edges66 _ _)).mono ?_; rintro e w' ⟨rfl, rfl⟩))
  obtain ⟨W0, hW0⟩ : ∃ W0, W0 = ((((w.alloc (Obj.cells #[Value.func (Fn.func g) #[] lb] 57)).alloc (Obj.cells (ccells 0 0 zbl).toArray 25)).alloc (Obj.cells (ccells 0 0 zbl).toArray 25)).setRow (w.heap.size + 1 + 1) (ccells (N : Int) k zbl).toArray).alloc (Obj.cells #[Value.int IntKind.i64 (N : Int)] 2) := ⟨_, rfl⟩
  have hBn : Blk W0 (w.heap.size + 1 + 1 + 1) #[.int .i64 (N : Int)] 2 := by rw [hW0]; exact Blk.new _ _ _ _ (by simp)
  have hBg : Blk W0 w.heap.size #[.func (.func g) #[] lb] 57 := by rw [hW0]; exact ((((Blk.new _ _ _ _ rfl).alloc _).alloc _).rowOther _ _ (by omega)).alloc _
  have hBz : Blk W0 (w.heap.size + 1) (ccells 0 0 zbl).toArray 25 := by rw [hW0]; exact (((Blk.new _ _ _ _ (by simp)).alloc _).rowOther _ _ (by omega)).alloc _
  have hBy : Blk W0 (w.heap.size + 1 + 1) (ccells (N : Int) k zbl).toArray 25 := by rw [hW0]; exact ((Blk.new _ _ _ _ (by simp)).rowSame _).alloc _
  have hbl0 : Below w.heap.size w W0 := by
    rw [hW0]
    exact (below_setRow ((((Below.refl _ _).alloc (Nat.le_refl _) _).alloc (by simp) _).alloc (by simp; omega) _) (by omega) _).alloc (by simp; omega) _
  rw [← hW0]
  clear hW0
  refine wpIn_rangeFunc_ownH rfl (by omega) (gf := 100) (lb := #[.pointer (some ⟨w.heap.size + 1 + 1 + 1, 0, none⟩)]) rfl trivial (enters_of Try.func100 (by kernel_rfl) rfl)
    (seq80 6 (w.heap.size + 1 + 1 + 1) N N1 N2 W0 hBn) kpB_t (kpB_b hBn.lt) (Below.refl _ _) (fun _ => rfl)
    (fun pre W => RelPt k g lb r w pre W ∧ w.heap.size + 1 + 1 + 1 < W.heap.size)
    (fun _ _ _ => False)
    (fun s A B row hs hg hr => ⟨⟨blk_own hs.1.1 hg hr, blk_own hs.1.2.1 hg hr, blk_own hs.1.2.2.1 hg hr, ownFrom_below (β := Unit) (Nat.le_refl _) hbl0.size () A B row hs.1.2.2.2 hg hr⟩, Nat.lt_of_lt_of_le hs.2 hg.size⟩)
    (fun _ _ _ _ _ hs _ _ => hs)
    ⟨⟨hBg, hBz, hBy, hbl0⟩, hBn.lt⟩
    (fun x a' W => ∃ b, a' = { tmps := #[.int .i64 (N : Int), .int .i64 k, .func (.func g) #[] lb, undef, undef, .pointer (some ⟨w.heap.size, 0, none⟩), .pointer (some ⟨w.heap.size + 1, 0, none⟩), .pointer (some ⟨w.heap.size + 1 + 1, 0, none⟩), .int .i64 (x.1.1 : Int), .pointer (some ⟨b, 0, none⟩), .int .i64 (N : Int), .int .i64 k, .agg (ccells (N : Int) k zbl).toArray, .int .i64 (N : Int), .func (.func 100) #[] #[.pointer (some ⟨w.heap.size + 1 + 1 + 1, 0, none⟩)], .int .i64 (x.1.1 : Int), .agg #[.int .i64 (x.1.2.1 : Int), .int .i64 (x.1.2.2 : Int)], undef, undef, undef, undef, undef, undef, undef, undef, undef, undef, undef], defers := [] } ∧ w.heap.size + 1 + 1 < b ∧ Blk W b #[.int .i64 (x.1.2.1 : Int), .int .i64 (x.1.2.2 : Int)] 79)
    (fun x a' s A B row hs hg hr => by obtain ⟨b, h1, h2, h3⟩ := hs; exact ⟨b, h1, h2, blk_own h3 hg hr⟩) ?assign ?body ?done ?stop
  case assign =>
    intro l pre x W Kx hI hK
    have HI := hidd hI
    have HK := hidd hK
    clear hI hK
    dsimp only [encE]
    gi_wp2
    refine HK.out _ _ ((KeepsOthers.alloc W _).from _) ?_ ?_ ?_
    · exact Below.heap_alloc W _ _ HI.out.2
    · exact ⟨⟨HI.out.1.1.alloc _, HI.out.1.2.1.alloc _, HI.out.1.2.2.1.alloc _, HI.out.1.2.2.2.alloc HI.out.1.2.2.2.size _⟩, by have := HI.out.2; simp; omega⟩
    · exact ⟨W.heap.size, rfl, by have := HI.out.2; omega, Blk.new _ _ _ _ rfl⟩
  case body =>
    rintro l pre x a' W hl _ ⟨⟨h1, h2, h3, h4⟩, h5⟩ ⟨b, rfl, hb, h6⟩ hlen
    have hx := x.lt
    have h17 := eN_17 N2
    obtain ⟨j, hj⟩ : ∃ j, j = x.1.1 := ⟨_, rfl⟩
    rw [← hj] at hx ⊢
    have HJ := hidd hj
    have cg := h1.cell (j := 0) (show _ = some (Value.func (Fn.func g) #[] lb) from rfl)
    have c0 := h6.cell (j := 0) (show _ = some (Value.int .i64 (x.1.2.1 : Int)) from rfl)
    have c1 := h6.cell (j := 1) (show _ = some (Value.int .i64 (x.1.2.2 : Int)) from rfl)
    have HH := hidd (And.intro h1 (And.intro h2 (And.intro h3 (And.intro h4 h5))))
    have hbj := pbF_bys HRB.out pre
    have HBJ := hidd hbj
    clear hj h1 h2 h3 h4 h5 h6 hbj
    have hrx := HRB.out x
    obtain ⟨v, hv⟩ : ∃ v, v = r x.1.2.1 x.1.2.2 := ⟨_, rfl⟩
    have hRX := HR.out x W HH.out.2.2.2.1
    rw [← hv] at hrx hRX
    have HV := hidd hv
    have HRX := hidd hRX
    obtain ⟨v0, v1⟩ := hrx
    clear hv hRX
    gi_wp2_with fail
    refine (CallsIn.inRound l ((callsIn_wide (n := 5)).2 HRX.out)).mono ?_
    rintro e W1 ⟨rfl, hb1⟩
    have hwr : IntKind.u8.wrap v = v := u8_in v0 v1
    have b3 := HH.out.2.2.1.below hb1 HH.out.2.2.1.lt
    have hj136 : j < 136 := by omega
    obtain ⟨old, cE⟩ : ∃ old, W1.cell? ⟨w.heap.size + 1 + 1, 2 + j, none⟩ = some old := ⟨_, b3.cell (HBJ.out.cget (N : Int) k hj136)⟩
    have fE := b3.fro (2 + j)
    obtain ⟨y, hy⟩ := Int.eq_ofNat_of_zero_le v0
    have s3 := b3.same (2 + j) (.int .u8 v)
    rw [hy, ccells_set] at s3
    have hp : (pbF r (pre ++ [x])) = (pbF r pre).set j y := by rw [pbF_snoc, ← HJ.out, ← HV.out, hy, Int.toNat_natCast]
    rw [← hp, ← hy] at s3
    have K1 := hidd (show RelPt k g lb r w (pre ++ [x]) (W1.setCell ⟨w.heap.size + 1 + 1, 2 + j, none⟩ (.int .u8 v)) from
      ⟨(HH.out.1.below hb1 HH.out.1.lt).other _ _ (by show w.heap.size ≠ w.heap.size + 1 + 1; omega), (HH.out.2.1.below hb1 HH.out.2.1.lt).other _ _ (by show w.heap.size + 1 ≠ w.heap.size + 1 + 1; omega), s3, (HH.out.2.2.2.1.trans (hb1.mono HH.out.2.2.2.1.size)).setCell (by show w.heap.size ≤ w.heap.size + 1 + 1; omega) _⟩)
    have K2 := hidd (And.intro ((keeps_below (B := W0.heap.size) hb1).trans ((KeepsOthers.setCell W1 ⟨w.heap.size + 1 + 1, 2 + j, none⟩ (.int .u8 v)).from _)) (And.intro (show KpB (w.heap.size + 1 + 1 + 1) W (W1.setCell ⟨w.heap.size + 1 + 1, 2 + j, none⟩ (.int .u8 v)) from (heap_setCell_other W1 ⟨w.heap.size + 1 + 1, 2 + j, none⟩ (w.heap.size + 1 + 1 + 1) (.int .u8 v) (by show w.heap.size + 1 + 1 + 1 ≠ w.heap.size + 1 + 1; omega)).trans (hb1.block _ HH.out.2.2.2.2)) (show w.heap.size + 1 + 1 + 1 < (W1.setCell ⟨w.heap.size + 1 + 1, 2 + j, none⟩ (.int .u8 v)).heap.size from Nat.lt_of_lt_of_le HH.out.2.2.2.2 (Nat.le_trans hb1.size (by simp [World.setCell])))))
    have hji : (j : Int) < 136 := by omega
    clear hb1 b3 hy s3 hp
    gi_wp2
    exact ⟨K2.out.1, K2.out.2.1, K1.out, K2.out.2.2⟩
  case done =>
    rintro D xs W hD hxs ⟨⟨h1, h2, h3, h4⟩, h5⟩ hK
    rw [pbF_eq r xs hxs] at h3
    have hbB : Bys (paintB N r) := by rw [← pbF_eq r xs hxs]; exact pbF_bys HRB.out xs
    have HS1 := hidd (size_c26 (N : Int) k hbB)
    have HO1 := hidd (size_cc 0 0 (N : Int) k zbl_bys hbB)
    have HA1 := hidd (ccells_one (N : Int) k (paintB N r))
    have R := hidd (And.intro h2 (And.intro h3 (And.intro (h2.rowSame (ccells (N : Int) k (paintB N r)).toArray) (below_setRow h4 (g := w.heap.size + 1) (by omega) (ccells (N : Int) k (paintB N r)).toArray))))
    have hK' : (W.setRow (w.heap.size + 1) (ccells (N : Int) k (paintB N r)).toArray).heap[D]? = some (.deferred (some [])) := (setRow_other W (w.heap.size + 1) D _ (by have := hBn.lt; omega)).trans hK
    have HK := hidd hK'
    clear h1 h2 h3 h4 hK hK'
    gi_wp2_with (first
      | (refine inLoadRow rfl 25 (.tmp 7) rfl (w.heap.size + 1 + 1) rfl 25 _ _ R.out.2.1 Try.underlying25 rfl HS1.out ?_)
      | (refine inStoreRow rfl 25 (.tmp 6) (.tmp 27) rfl (w.heap.size + 1) _ rfl rfl 25 _ R.out.1 HS1.out HO1.out HA1.out ?_))
    have hDW : W0.heap.size ≤ D := hD
    have hlt := hBn.lt
    refine ⟨by simp [Act.put], .inl ⟨_, _, rfl, run_takeDeferred HK.out, ?_⟩⟩
    have hr : Blk ((W.setRow (w.heap.size + 1) (ccells (N : Int) k (paintB N r)).toArray).putObj D (.deferred none)) (w.heap.size + 1) (ccells (N : Int) k (paintB N r)).toArray 25 := (World.putObj_heap_other (by omega)).trans R.out.2.2.1
    have hb2 : Below w.heap.size w ((W.setRow (w.heap.size + 1) (ccells (N : Int) k (paintB N r)).toArray).putObj D (.deferred none)) := R.out.2.2.2.grown (grownBy_putObj' _ D (.deferred none)) R.out.2.2.2.size (fun k e => by cases e; omega)
    exact ⟨_, results_cell_row rfl _ _ (w.heap.size + 1) 25 _ (0,0) _ rfl hr Try.underlying25 rfl HS1.out, rfl, hb2⟩
  case stop =>
    rintro D c pre W _ _ h _
    exact h.elim
end Go.Proofs.Ytikcmgmgdbbcfaa
