/- PartOn: the program's own text. -/
import Derived.Test.YtpjegmmichjlbaaSet
import Derived.StillTailTactics
namespace Go.Proofs.Ytpjegmmichjlbaa
set_option linter.unusedVariables false
set_option linter.unusedSimpArgs false
open Go Go.RowKit Go.Shelf
/-- The load of a whole row in a region that draws its order. -/
theorem stillRow {P : Program} {ops : Array Oper} {rest : List Oper} {o : Oper} {a : Act} {w : World} {Q : Act → Prop} (hw : Region.wanted o (yielded ops a.tmps) = true) (ty : TypeId) (x : Operand) (ho : o.op = .load ty x)
    (g : Nat) (hx : a.eval x = .pointer (some ⟨g, 0, none⟩)) (t : TypeId) (cs : Array Value) (d : TypeDesc) (hg : Blk w g cs t)
    (hu : P.underlying ty = some d) (hd : (match d with | .struct _ | .array _ _ => true | _ => false) = true) (hi : (P.info? ty).map (·.size) = some cs.size)
    (h : wpStill P ops w Q rest (a.put o.dst (.agg cs))) : wpStill P ops w Q (o :: rest) a := by
  refine wpStill_step fun K hK => ?_
  rw [if_pos hw]
  unfold Oper.still execOp
  simp only [ho, hx, Instr.loadAt, Instr.sureAddr, Sem.run_bind, Sem.run_pure, Result.andThen_ok, run_loadVar_row w g t ty cs (0, 0) d hg hu hd hi]
  rw [Oper.stillUpon_value]
  exact hK _ h
theorem set_get {zs : List Int} {n : Int} (h : setB zs n = true) : (∀ i, i < zs.length → 0 ≤ zs.getD i 0 ∧ zs.getD i 0 < n) ∧ ∀ i, i + 1 < zs.length → zs.getD i 0 < zs.getD (i + 1) 0 := by
  unfold setB at h
  rw [Bool.and_eq_true] at h
  refine ⟨fun i hi => allB_get h.2 hi, fun i hi => ?_⟩
  have := of_decide_eq_true h.1
  exact this i (by omega) hi
theorem set_up {zs : List Int} {n : Int} (h : setB zs n = true) {i : Nat} : ∀ d, i + d < zs.length → zs.getD i 0 + d ≤ zs.getD (i + d) 0
  | 0, _ => by simp
  | d + 1, hd => by
    have h1 := set_up h (i := i) d (by omega)
    have h2 := (set_get h).2 (i + d) (by omega)
    rw [← Nat.add_assoc]; omega
theorem set_len {zs : List Int} {n : Int} (h : setB zs n = true) (hn : 0 ≤ n) : (zs.length : Int) ≤ n := by
  by_cases h0 : zs.length = 0
  · omega
  · have h1 := set_up h (i := 0) (zs.length - 1) (by omega)
    have h2 := (set_get h).1 (zs.length - 1) (by omega)
    have h3 := (set_get h).1 0 (by omega)
    rw [Nat.zero_add] at h1
    omega
set_option maxRecDepth 100000 in
theorem rule70 (n k : Int) (bs : List Nat) (hb : Bys bs) (b0 b1 : Nat) (zs : List Int) (a : Option Addr) (cap : Nat) (W : World) (hC : Blk W b0 (ccells n k bs).toArray 29) (hB : Blk W b1 #[.slice a zs.length cap] 38) (hs : SlI W a zs)
    (n2 : n ≤ 17) (lo hi : Nat) (h1 : lo < hi) (h3 : hi < zs.length) (hset : setB zs n = true) (hl : zs.length ≤ 17) :
    Calls Try.prog 80 #[.int .i64 (lo : Int), .int .i64 (hi : Int), .pointer (some ⟨b0, 0, none⟩), .pointer (some ⟨b1, 0, none⟩)] W fun e W' => e = .returned (.int .i64 (colAt bs (zs.getD lo 0) (zs.getD hi 0))) ∧ Below W.heap.size W W' := by
  have hup := set_up hset (i := lo) (hi - lo) (by omega)
  rw [show lo + (hi - lo) = hi by omega] at hup
  have hll : lo < zs.length := by omega
  obtain ⟨p0, p1⟩ := (set_get hset).1 lo (by omega)
  obtain ⟨q0, q1⟩ := (set_get hset).1 hi h3
  have HS := hidd (size_c26 n k hb)
  rcases hs with hz | ⟨b, off, ha, hc⟩
  · subst hz; simp at h3
  · subst ha
    have hcl := hc lo (by omega)
    have hch := hc hi h3
    have c0 := hB.cell (j := 0) (show _ = some (Value.slice (some ⟨b, off, none⟩) zs.length cap) from rfl)
    obtain ⟨y, hy⟩ : ∃ y, y = zs.getD lo 0 := ⟨_, rfl⟩
    obtain ⟨z, hz⟩ : ∃ z, z = zs.getD hi 0 := ⟨_, rfl⟩
    rw [← hy] at hcl p0 p1 hup
    rw [← hz] at hch q0 q1 hup
    rw [← hy, ← hz]
    have HC := hidd hC
    have HNE := hidd (show y ≠ z by omega)
    clear hc hy hz hB hset hC
    go_enter Try.func80, Try.ntmps80
    go_wp2_with fail
    refine wp_region_still_tail 9 (by kernel_rfl) (by kernel_rfl) ?_
    simp only [List.take_succ_cons, List.take_zero, List.drop_succ_cons, List.drop_zero]
    change wpStill _ _ W.drew (fun a' => wpList _ _ _ _ a' W.drew) _ _
    refine stillRow rfl 29 (.tmp 2) rfl b0 rfl 29 _ _ (show Blk W.drew b0 _ 29 from HC.out) Try.underlying29 rfl HS.out ?_
    iterate 8 still_step
    refine wpStill_nil ?_
    go_wp2_with fail
    refine (at59 n k bs hb n y z _ n2 p0 p1 q0 q1 HNE.out).mono ?_
    rintro e w1 ⟨rfl, hb1⟩
    go_wp2
    go_ret
    exact ⟨rfl, (Below.refl W.heap.size W).drew.trans hb1⟩
def poCode (n k : Int) (bs : List Nat) (zs : List Int) : Int := if isCol n k bs = true then (if zs.length ≠ 0 ∧ setB zs n = true then 0 else 2) else 1
def poN (n k : Int) (bs : List Nat) (zs : List Int) : Int := if poCode n k bs zs = 0 then (zs.length : Int) else 0
def poK (n k : Int) (bs : List Nat) (zs : List Int) : Int := if poCode n k bs zs = 0 then k else 0
def poB (n k : Int) (bs : List Nat) (zs : List Int) : List Nat := if poCode n k bs zs = 0 then paintB zs.length (fun lo hi => colAt bs (zs.getD lo 0) (zs.getD hi 0)) else zbl
/-- What PartOn returns. -/
def poOut (n k : Int) (bs : List Nat) (zs : List Int) : Value := .tuple #[.agg (ccells (poN n k bs zs) (poK n k bs zs) (poB n k bs zs)).toArray, .int .i64 (poCode n k bs zs)]
theorem poOut_bad {n k : Int} {bs : List Nat} {zs : List Int} {m : Int} (h : poCode n k bs zs = m) (hm : m ≠ 0) : poOut n k bs zs = .tuple #[.agg (ccells 0 0 zbl).toArray, .int .i64 m] := by
  simp [poOut, poN, poK, poB, h, hm]
theorem poOut_good {n k : Int} {bs : List Nat} {zs : List Int} (h : poCode n k bs zs = 0) : poOut n k bs zs = .tuple #[.agg (ccells (zs.length : Int) k (paintB zs.length (fun lo hi => colAt bs (zs.getD lo 0) (zs.getD hi 0)))).toArray, .int .i64 0] := by
  simp [poOut, poN, poK, poB, h]
theorem poCode_1 {n k : Int} {bs : List Nat} {zs : List Int} (h : isCol n k bs = false) : poCode n k bs zs = 1 := by simp [poCode, h]
theorem poCode_2 {n k : Int} {bs : List Nat} {zs : List Int} (h : isCol n k bs = true) (h2 : ¬ (zs.length ≠ 0 ∧ setB zs n = true)) : poCode n k bs zs = 2 := by unfold poCode; rw [if_pos h, if_neg h2]
theorem poCode_0 {n k : Int} {bs : List Nat} {zs : List Int} (h : isCol n k bs = true) (h2 : zs.length ≠ 0 ∧ setB zs n = true) : poCode n k bs zs = 0 := by unfold poCode; rw [if_pos h, if_pos h2]
theorem paintB_bys {N : Nat} {r : Nat → Nat → Int} (hr : ∀ lo hi, 0 ≤ r lo hi ∧ r lo hi < 256) : Bys (paintB N r) := by
  unfold paintB
  suffices h : ∀ (l : List (Nat × Nat × Nat)) b, Bys b → Bys (l.foldl (fun b t => b.set t.1 (r t.2.1 t.2.2).toNat) b) from h _ _ zbl_bys
  intro l
  induction l with
  | nil => intro b hb; exact hb
  | cons x l ih => intro b hb; exact ih _ (hb.set _ _ (by have := hr x.2.1 x.2.2; omega))
theorem ruleOf70 (n k : Int) (bs : List Nat) (hb : Bys bs) (b0 b1 : Nat) (zs : List Int) (a : Option Addr) (cap : Nat) (w : World) (hC : Blk w b0 (ccells n k bs).toArray 29) (hB : Blk w b1 #[.slice a zs.length cap] 38) (hs : SlI w a zs)
    (n2 : n ≤ 17) (hset : setB zs n = true) (hl : zs.length ≤ 17) :
    Rule zs.length 80 #[.pointer (some ⟨b0, 0, none⟩), .pointer (some ⟨b1, 0, none⟩)] (fun lo hi => colAt bs (zs.getD lo 0) (zs.getD hi 0)) w := by
  intro x W hbl
  obtain ⟨hx1, hx2, hx3⟩ := x.2
  exact rule70 n k bs hb b0 b1 zs a cap W (hC.below hbl hC.lt) (hB.below hbl hB.lt) (hs.below hbl (Nat.le_refl _)) n2 x.1.2.1 x.1.2.2 hx2 hx3 hset hl
set_option maxRecDepth 100000 in
set_option maxHeartbeats 2000000 in
theorem impl36 (n k : Int) (bs : List Nat) (hb : Bys bs) (zs : List Int) (a : Option Addr) (cap : Nat) (w : World) (hs : SlI w a zs) (hl : zs.length ≤ 9223372036854775807) :
    Calls Try.prog 50 #[.agg (ccells n k bs).toArray, .slice a zs.length cap] w fun e w' => e = .returned (poOut n k bs zs) ∧ Below w.heap.size w w' := by
  have HS := hidd (size_c26 n k hb)
  have Hz := zero26
  have HZS := hidd size_z26
  have HZ1 := hidd (ccells_one 0 0 zbl)
  have HC0 := hidd (show (ccells n k bs).toArray[0]? = some (.int .i64 n) from rfl)
  have HC1 := hidd (show (ccells n k bs).toArray[1]? = some (.int .i64 k) from rfl)
  have hmk : ∀ w0, w0 = ((w.alloc (.cells (ccells n k bs).toArray 29)).alloc (.cells #[.slice a zs.length cap] 38)).alloc (.cells (ccells 0 0 zbl).toArray 29) → ∀ w1, Below w0.heap.size w0 w1 →
      Blk w1 w.heap.size (ccells n k bs).toArray 29 ∧ Blk w1 (w.heap.size + 1) #[.slice a zs.length cap] 38 ∧ Blk w1 (w.heap.size + 1 + 1) (ccells 0 0 zbl).toArray 29 ∧ SlI w1 a zs ∧ Below w.heap.size w w1 := by
    rintro w0 rfl w1 hb1
    have hb := (((Below.refl w.heap.size w).alloc (Nat.le_refl _) (.cells (ccells n k bs).toArray 29)).alloc (by simp) (.cells #[.slice a zs.length cap] 38)).alloc (by simp; omega) (.cells (ccells 0 0 zbl).toArray 29)
    have hbl := hb.trans (hb1.mono (by simp; omega))
    exact ⟨(((Blk.new _ _ _ _ rfl).alloc _).alloc _).below hb1 (by simp; omega), ((Blk.new _ _ _ _ (by simp)).alloc _).below hb1 (by simp), (Blk.new _ _ _ _ (by simp)).below hb1 (by simp), hs.below hbl (Nat.le_refl _), hbl⟩
  have HMK := hidd hmk
  clear hmk
  cases hi : isCol n k bs with
  | false =>
    have H := hidd (poOut_bad (poCode_1 (zs := zs) hi) (by omega))
    have HI := hidd hi
    clear hi hs
    go_enter Try.func50, Try.ntmps50
    go_wp2_with (refine wpList_load_row rfl 29 (.tmp 2) rfl w.heap.size rfl 29 _ (0,0) _ (((Blk.new _ _ _ _ rfl).alloc _).alloc _) Try.underlying29 rfl HS.out ?_)
    refine (implIs_any n k bs hb _).mono ?_
    rintro e w1 ⟨rfl, hb1⟩
    rw [HI.out]
    have G := hidd (HMK.out _ rfl _ hb1)
    have R := hidd (And.intro G.out.2.2.1 (And.intro (G.out.2.2.1.rowSame (ccells 0 0 zbl).toArray) (below_setRow G.out.2.2.2.2 (g := w.heap.size + 1 + 1) (by omega) (ccells 0 0 zbl).toArray)))
    clear hb1
    go_wp2_with (first
      | (refine wpList_zero26 rfl rfl ?_)
      | (refine wpList_store_row rfl 29 (.tmp 4) (.tmp 9) rfl (w.heap.size + 1 + 1) _ rfl rfl 29 _ R.out.1 HZS.out rfl HZ1.out ?_))
    exact ret_col rfl zbl_bys rfl R.out.2.1 rfl rfl ⟨by rw [H.out]; rfl, R.out.2.2⟩
  | true =>
    have HI := hidd hi
    obtain ⟨n1, n2, k1, k2⟩ := isCol_bd hi
    by_cases h0 : zs.length = 0
    · have H := hidd (poOut_bad (poCode_2 (zs := zs) hi (fun h => h.1 h0)) (by omega))
      have hq : ((zs.length : Int) == 0) = true := by simp [h0]
      clear hi hs h0
      go_enter Try.func50, Try.ntmps50
      go_wp2_with (refine wpList_load_row rfl 29 (.tmp 2) rfl w.heap.size rfl 29 _ (0,0) _ (((Blk.new _ _ _ _ rfl).alloc _).alloc _) Try.underlying29 rfl HS.out ?_)
      refine (implIs_any n k bs hb _).mono ?_
      rintro e w1 ⟨rfl, hb1⟩
      rw [HI.out]
      have G := hidd (HMK.out _ rfl _ hb1)
      have R := hidd (And.intro G.out.2.2.1 (And.intro (G.out.2.2.1.rowSame (ccells 0 0 zbl).toArray) (below_setRow G.out.2.2.2.2 (g := w.heap.size + 1 + 1) (by omega) (ccells 0 0 zbl).toArray)))
      have c5 := G.out.2.1.cell (j := 0) (show _ = some (Value.slice a zs.length cap) from rfl)
      clear hb1
      go_wp2_with (first
        | (refine wpList_zero26 rfl rfl ?_)
        | (refine wpList_store_row rfl 29 (.tmp 4) (.tmp 20) rfl (w.heap.size + 1 + 1) _ rfl rfl 29 _ R.out.1 HZS.out rfl HZ1.out ?_))
      exact ret_col rfl zbl_bys rfl R.out.2.1 rfl rfl ⟨by rw [H.out]; rfl, R.out.2.2⟩
    · have hq : ((zs.length : Int) == 0) = false := by rw [beq_eq_false_iff_ne]; omega
      cases hset : setB zs n with
      | false =>
        have H := hidd (poOut_bad (poCode_2 (zs := zs) hi (fun h => by rw [hset] at h; exact absurd h.2 (by simp))) (by omega))
        have HSET := hidd hset
        clear hi hs h0 hset
        go_enter Try.func50, Try.ntmps50
        go_wp2_with (refine wpList_load_row rfl 29 (.tmp 2) rfl w.heap.size rfl 29 _ (0,0) _ (((Blk.new _ _ _ _ rfl).alloc _).alloc _) Try.underlying29 rfl HS.out ?_)
        refine (implIs_any n k bs hb _).mono ?_
        rintro e w1 ⟨rfl, hb1⟩
        rw [HI.out]
        have G := hidd (HMK.out _ rfl _ hb1)
        have c5 := G.out.2.1.cell (j := 0) (show _ = some (Value.slice a zs.length cap) from rfl)
        have c0 := G.out.1.cell HC0.out
        clear hb1
        go_wp2_with fail
        refine (set69 zs a cap n _ G.out.2.2.2.1 hl).mono ?_
        rintro e w2 ⟨rfl, hb2⟩
        rw [HSET.out]
        have z2 := G.out.2.2.1.below hb2 G.out.2.2.1.lt
        have b2 := G.out.2.2.2.2.trans (hb2.mono G.out.2.2.2.2.size)
        have R := hidd (And.intro z2 (And.intro (z2.rowSame (ccells 0 0 zbl).toArray) (below_setRow b2 (g := w.heap.size + 1 + 1) (by omega) (ccells 0 0 zbl).toArray)))
        clear hb2 z2 b2 c5 c0
        go_wp2_with (first
          | (refine wpList_zero26 rfl rfl ?_)
          | (refine wpList_store_row rfl 29 (.tmp 4) (.tmp 20) rfl (w.heap.size + 1 + 1) _ rfl rfl 29 _ R.out.1 HZS.out rfl HZ1.out ?_))
        exact ret_col rfl zbl_bys rfl R.out.2.1 rfl rfl ⟨by rw [H.out]; rfl, R.out.2.2⟩
      | true =>
        have H := hidd (poOut_good (poCode_0 (zs := zs) hi ⟨h0, hset⟩))
        have HSET := hidd hset
        have hlen := set_len hset (by omega)
        have h17 : zs.length ≤ 17 := by omega
        have h1 : 1 ≤ zs.length := by omega
        obtain ⟨r, hr⟩ : ∃ r : Nat → Nat → Int, r = fun lo hi => colAt bs (zs.getD lo 0) (zs.getD hi 0) := ⟨_, rfl⟩
        have hrb : ∀ lo hi, 0 ≤ r lo hi ∧ r lo hi < 256 := fun lo hi => by rw [hr]; exact colAt_bd hb _ _
        have HRB := hidd hrb
        have HR := hidd hr
        have HPB := hidd (paintB_bys (N := zs.length) hrb)
        have HPS := hidd (size_c26 (zs.length : Int) k HPB.out)
        have HPO := hidd (size_cc 0 0 (zs.length : Int) k zbl_bys HPB.out)
        have HPA := hidd (ccells_one (zs.length : Int) k (paintB zs.length r))
        rw [← hr] at H
        clear hi hs h0 hset hrb hr hlen
        go_enter Try.func50, Try.ntmps50
        go_wp2_with (refine wpList_load_row rfl 29 (.tmp 2) rfl w.heap.size rfl 29 _ (0,0) _ (((Blk.new _ _ _ _ rfl).alloc _).alloc _) Try.underlying29 rfl HS.out ?_)
        refine (implIs_any n k bs hb _).mono ?_
        rintro e w1 ⟨rfl, hb1⟩
        rw [HI.out]
        have G := hidd (HMK.out _ rfl _ hb1)
        have c5 := G.out.2.1.cell (j := 0) (show _ = some (Value.slice a zs.length cap) from rfl)
        have c0 := G.out.1.cell HC0.out
        clear hb1
        go_wp2_with fail
        refine (set69 zs a cap n _ G.out.2.2.2.1 hl).mono ?_
        rintro e w2 ⟨rfl, hb2⟩
        rw [HSET.out]
        have G2 := hidd (And.intro (G.out.1.below hb2 G.out.1.lt) (And.intro (G.out.2.1.below hb2 G.out.2.1.lt) (And.intro (G.out.2.2.1.below hb2 G.out.2.2.1.lt) (And.intro (G.out.2.2.2.1.below hb2 (Nat.le_refl _)) (G.out.2.2.2.2.trans (hb2.mono G.out.2.2.2.2.size))))))
        clear hb2 c5 c0
        have c5 := G2.out.2.1.cell (j := 0) (show _ = some (Value.slice a zs.length cap) from rfl)
        have c1 := G2.out.1.cell HC1.out
        go_wp2_with fail
        refine (paint52 zs.length k 80 _ r w2 h1 h17 (fun x => HRB.out _ _) (enters_of Try.func80 (by kernel_rfl) rfl) (by rw [HR.out]; exact ruleOf70 n k bs hb _ _ zs a cap w2 G2.out.1 G2.out.2.1 G2.out.2.2.2.1 n2 HSET.out h17)).mono ?_
        rintro e w3 ⟨rfl, hb3⟩
        have z3 := G2.out.2.2.1.below hb3 G2.out.2.2.1.lt
        have b3 := G2.out.2.2.2.2.trans (hb3.mono G2.out.2.2.2.2.size)
        have R := hidd (And.intro z3 (And.intro (z3.rowSame (ccells (zs.length : Int) k (paintB zs.length r)).toArray) (below_setRow b3 (g := w.heap.size + 1 + 1) (by omega) (ccells (zs.length : Int) k (paintB zs.length r)).toArray)))
        clear hb3 z3 b3 c5 c1
        go_wp2_with (refine wpList_store_row rfl 29 (.tmp 4) (.tmp 26) rfl (w.heap.size + 1 + 1) _ rfl rfl 29 _ R.out.1 HPS.out HPO.out HPA.out ?_)
        exact ret_col rfl HPB.out rfl R.out.2.1 rfl rfl ⟨by rw [H.out]; rfl, R.out.2.2⟩
end Go.Proofs.Ytpjegmmichjlbaa
