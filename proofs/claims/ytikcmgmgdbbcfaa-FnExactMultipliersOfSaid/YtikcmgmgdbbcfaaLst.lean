/- ListOfCircular: the program and its model. -/
import Derived.Test.YtikcmgmgdbbcfaaDiffSp
import Derived.Test.YtikcmgmgdbbcfaaEqc
import Derived.Test.YtikcmgmgdbbcfaaCirc
import Derived.BigQuiet
namespace Go.Proofs.Ytikcmgmgdbbcfaa
set_option linter.unusedVariables false
set_option linter.unusedSimpArgs false
open Go Go.RowKit Go.Shelf
theorem wp_region_quiet_at {P : Program} {id : Nat} {Q : Exit → Act → World → Prop} {a : Act} {w : World} {l : List Oper} (C : World → Prop) (hm : P.follows .mixedOrders = true) (hB : Region.lexB .any l.toArray = true) (hC : C w.drew)
    (h : wpQuiet P l.toArray C (fun a' => ∀ w', C w' → Q .normal a' w') l a) : (Code.region id l.toArray true).wp P Q a w :=
  wp_region_quiet (C := C) hm hB hC (by simpa using h)
theorem quietEql25 {C : World → Prop} {o : Oper} {a : Act} {w : World} (x y : Operand) (ho : o.op = .binOp .eql 25 x y 25) (n k : Int) (bs cs : List Nat) (hb : Bys bs) (hc : Bys cs)
    (hx : a.eval x = .agg (ccells n k bs).toArray) (hy : a.eval y = .agg (ccells n k cs).toArray) : o.quietAt Try.prog a C w (.bool (bs == cs)) := by
  unfold Oper.quietAt execOp
  simp only [ho, hx, hy, Sem.run_bind, run_eqGuard_agg w .eql 25 x y _ _ guard25, Result.andThen_ok, run_eql_struct, eqCol25 w n k bs cs hb hc 9996]
  exact ⟨rfl, rfl⟩
theorem quietNeq25 {C : World → Prop} {o : Oper} {a : Act} {w : World} (x y : Operand) (ho : o.op = .binOp .neq 25 x y 25) (n k : Int) (bs cs : List Nat) (hb : Bys bs) (hc : Bys cs)
    (hx : a.eval x = .agg (ccells n k bs).toArray) (hy : a.eval y = .agg (ccells n k cs).toArray) : o.quietAt Try.prog a C w (.bool (!(bs == cs))) := by
  unfold Oper.quietAt execOp
  simp only [ho, hx, hy, Sem.run_bind, run_eqGuard_agg w .neq 25 x y _ _ guard25, Result.andThen_ok, run_neq_struct, eqCol25 w n k bs cs hb hc 9996]
  exact ⟨rfl, rfl⟩
/-! ### Lists filled one by one -/
def fillK (f : Nat → Int) (M j : Nat) : List Int := (List.range M).map fun i => if i < j then f i else 0
def fillA (f : Nat → Int) (M : Nat) : List Int := (List.range M).map f
theorem fillK_zero (f : Nat → Int) (M : Nat) : zrow M = (icells (fillK f M 0)).toArray := by
  rw [zrow_icells]
  congr 2
  apply List.ext_getElem
  · simp [fillK]
  · intro p h1 h2
    simp [fillK]
theorem fillK_done (f : Nat → Int) (M : Nat) : fillK f M M = fillA f M := by
  unfold fillK fillA
  refine List.map_congr_left fun i hi => ?_
  rw [if_pos (List.mem_range.1 hi)]
theorem fillK_len (f : Nat → Int) (M j : Nat) : (fillK f M j).length = M := by simp [fillK]
theorem fillA_len (f : Nat → Int) (M : Nat) : (fillA f M).length = M := by simp [fillA]
theorem fillA_get (f : Nat → Int) {M j : Nat} (h : j < M) : (fillA f M).getD j 0 = f j := by simp [fillA, List.getD, h]
theorem fillA_snoc (f : Nat → Int) (M : Nat) : fillA f (M + 1) = fillA f M ++ [f M] := by simp [fillA, List.range_succ]
theorem fillK_set (f : Nat → Int) (M j : Nat) : (fillK f M j).set j (f j) = fillK f M (j + 1) := by
  apply List.ext_getElem
  · simp [fillK]
  · intro p h1 h2
    rw [List.getElem_set]
    by_cases e : j = p
    · subst e; simp [fillK]
    · rw [if_neg e]
      simp only [fillK, List.getElem_map, List.getElem_range]
      by_cases h : p < j
      · rw [if_pos h, if_pos (by omega)]
      · rw [if_neg h, if_neg (by omega)]
/-- The colours of the edges of 0 with 1, 2, .. -/
def fcol (bs : List Nat) (d : Nat) : Int := colAt bs 0 ((d : Int) + 1)
theorem fcol_rng {bs : List Nat} (hb : Bys bs) (M j : Nat) : 0 ≤ (fillA (fcol bs) M).getD j 0 ∧ (fillA (fcol bs) M).getD j 0 < 256 := by
  by_cases h : j < M
  · rw [fillA_get _ h]; exact colAt_bd hb _ _
  · rw [List.getD, List.getElem?_eq_none (by rw [fillA_len]; omega)]; simp
def RelFf (bs : List Nat) (M : Nat) (C : Array Value) (w : World) (j : Nat) (wr : World) : Prop := Blk wr w.heap.size C 25 ∧ Blk wr (w.heap.size + 1) (icells (fillK (fcol bs) M j)).toArray 2 ∧ Below w.heap.size w wr
set_option maxRecDepth 100000 in
set_option maxHeartbeats 1000000 in
theorem first68 (n k : Int) (bs : List Nat) (hb : Bys bs) (M : Nat) (hM : (M : Int) + 1 ≤ n) (n2 : n ≤ 17) (w : World) :
    Calls Try.prog 68 #[.agg (ccells n k bs).toArray, .int .i64 (M : Int)] w fun e w' => ∃ a, e = .returned (.slice a M M) ∧ OwnL w' w.heap.size a (fillA (fcol bs) M) ∧ Below w.heap.size w w' := by
  have HS := hidd (size_c26 n k hb)
  have hmk := make29 M (by omega)
  rw [fillK_zero (fcol bs) M] at hmk
  have hb0 : Below w.heap.size w ((w.alloc (.cells (ccells n k bs).toArray 25)).alloc (.cells (icells (fillK (fcol bs) M 0)).toArray 2)) := ((Below.refl _ _).alloc (Nat.le_refl _) _).alloc (by simp) _
  have HB0 := hidd hb0
  clear hb0
  go_enter Try.func68, Try.ntmps68
  go_wp2_with fail
  go_loopw [11] (fun i wr => ∃ j : Nat, j ≤ M ∧ i = .int .i64 j ∧ RelFf bs M (ccells n k bs).toArray w j wr) (fun i _ => M - (intOf i).toNat)
  case atStart => exact ⟨0, by omega, rfl, (Blk.new _ _ _ _ rfl).alloc _, Blk.new _ _ _ _ (by simp), HB0.out⟩
  case round =>
    obtain ⟨j, hj, rfl, HR⟩ := hrel
    have HK := hidd HR
    clear HR
    by_cases hlt : j < M
    · obtain ⟨v, hv⟩ : ∃ v : Int, v = fcol bs j := ⟨_, rfl⟩
      have HV := hidd hv
      clear hv
      go_wp2_with (refine wpList_load_row rfl 25 (.tmp 2) rfl w.heap.size rfl 25 _ (0,0) _ HK.out.1 Try.underlying25 rfl HS.out ?_)
      refine (at59 n k bs hb n 0 ((j : Int) + 1) _ n2 (by omega) (by omega) (by omega) (by omega) (by omega)).mono ?_
      rintro e w1 ⟨he, hb1⟩
      rw [show colAt bs 0 ((j : Int) + 1) = v from HV.out.symm] at he
      subst he
      have q1 := HK.out.1.below hb1 HK.out.1.lt
      have q2 := HK.out.2.1.below hb1 HK.out.2.1.lt
      have q3 := HK.out.2.2.trans (hb1.mono HK.out.2.2.size)
      obtain ⟨old, hold⟩ : ∃ old, w1.cell? ⟨w.heap.size + 1, j, none⟩ = some old := ⟨_, q2.cell (icells_get (by rw [fillK_len]; exact hlt))⟩
      have hf := q2.fro j
      have hst := q2.same j (.int .i64 v)
      rw [HV.out, icells_set, fillK_set, ← HV.out] at hst
      have K := hidd (show RelFf bs M (ccells n k bs).toArray w (j + 1) (w1.setCell ⟨w.heap.size + 1, j, none⟩ (.int .i64 v)) from ⟨q1.other _ _ (by show w.heap.size ≠ w.heap.size + 1; omega), hst, q3.setCell (by show w.heap.size ≤ w.heap.size + 1; omega) _⟩)
      have hjM : (j : Int) < (M : Int) := by omega
      clear hb1 q1 q2 q3 hst
      go_wp2_with fail
      go_roundw
      case rel => exact ⟨j + 1, by omega, by go_num, K.out⟩
      case measure => simp [intOf]; omega
    · have hje : j = M := by omega
      subst hje
      have q2 := HK.out.2.1
      rw [fillK_done] at q2
      have R := hidd (And.intro q2 HK.out.2.2)
      clear q2 HK
      go_wp2_with fail
      go_ret
      exact ⟨_, rfl, own_blk R.out.1 (by omega), R.out.2⟩
/-- The list of a circular colouring. -/
def lcL (N : Nat) (bs : List Nat) : List Int := fillA (fcol bs) (N / 2)
theorem ownL_base {w : World} {B B' : Nat} {a : Option Addr} {zs : List Int} (h : OwnL w B a zs) (hB : B' ≤ B) : OwnL w B' a zs := by
  rcases h with h | ⟨g, C, h1, h2⟩
  · exact .inl h
  · exact .inr ⟨g, C, by omega, h2⟩
theorem lcL_len (N : Nat) (bs : List Nat) : (lcL N bs).length = N / 2 := fillA_len _ _
/-- The colouring that the list tells. -/
def lcP (N : Nat) (bs : List Nat) : List Nat := paintB N (fun lo hi => (lcL N bs).getD (dst N lo hi - 1) 0)
theorem lcP_bys {bs : List Nat} (hb : Bys bs) (N : Nat) : Bys (lcP N bs) := paintB_bys fun lo hi => fcol_rng hb _ _
def circB (N : Nat) (bs : List Nat) : Bool := decide (2 ≤ N) && (lcP N bs == bs)
def lcCode (n k : Int) (bs : List Nat) : Int := if isCol n k bs = true then (if circB n.toNat bs = true then 0 else 5) else 1
def lcList (n k : Int) (bs : List Nat) : List Int := if lcCode n k bs = 0 then lcL n.toNat bs else []
theorem lc_1 {n k : Int} {bs : List Nat} (h : isCol n k bs = false) : lcList n k bs = [] ∧ lcCode n k bs = 1 := by
  have e : lcCode n k bs = 1 := by simp [lcCode, h]
  exact ⟨by simp [lcList, e], e⟩
theorem lc_5 {n k : Int} {bs : List Nat} (h : isCol n k bs = true) (h2 : circB n.toNat bs = false) : lcList n k bs = [] ∧ lcCode n k bs = 5 := by
  have e : lcCode n k bs = 5 := by simp [lcCode, h, h2]
  exact ⟨by simp [lcList, e], e⟩
theorem lc_0 {n k : Int} {bs : List Nat} (h : isCol n k bs = true) (h2 : circB n.toNat bs = true) : lcList n k bs = lcL n.toNat bs ∧ lcCode n k bs = 0 := by
  have e : lcCode n k bs = 0 := by simp [lcCode, h, h2]
  exact ⟨by simp [lcList, e], e⟩
theorem lcList_len {n k : Int} {bs : List Nat} : (lcList n k bs).length ≤ 17 := by
  cases h : isCol n k bs with
  | false => rw [(lc_1 h).1]; simp
  | true =>
    have := isCol_bd h
    cases h2 : circB n.toNat bs with
    | false => rw [(lc_5 h h2).1]; simp
    | true => rw [(lc_0 h h2).1, lcL_len]; omega
set_option maxRecDepth 100000 in
set_option maxHeartbeats 2000000 in
theorem impl29l (n k : Int) (bs : List Nat) (hb : Bys bs) (w : World) :
    Calls Try.prog 29 #[.agg (ccells n k bs).toArray] w (LOut w (lcList n k bs) (lcCode n k bs)) := by
  have HS := hidd (size_c26 n k hb)
  have HC0 := hidd (show (ccells n k bs).toArray[0]? = some (.int .i64 n) from rfl)
  have HC1 := hidd (show (ccells n k bs).toArray[1]? = some (.int .i64 k) from rfl)
  cases hi : isCol n k bs with
  | false =>
    obtain ⟨e1, e2⟩ := lc_1 hi
    have HI := hidd hi
    rw [e1, e2]
    clear hi e1 e2
    go_enter Try.func29, Try.ntmps29
    go_wp2_with (refine wpList_load_row rfl 25 (.tmp 1) rfl w.heap.size rfl 25 _ (0,0) _ (Blk.new _ _ _ _ rfl) Try.underlying25 rfl HS.out ?_)
    refine (implIs_any n k bs hb _).mono ?_
    rintro e w1 ⟨rfl, hb1⟩
    rw [HI.out]
    have G := hidd (((Below.refl w.heap.size w).alloc (Nat.le_refl _) (.cells (ccells n k bs).toArray 25)).trans (hb1.mono (by simp)))
    clear hb1
    go_wp2_with fail
    go_ret2
    exact lout_nil rfl G.out
  | true =>
    obtain ⟨n1, n2, k1, k2⟩ := isCol_bd hi
    have HI := hidd hi
    obtain ⟨N, rfl⟩ := Int.eq_ofNat_of_zero_le (show 0 ≤ n by omega)
    have HHALF := hidd (show (N : Int) / 2 = ((N / 2 : Nat) : Int) by omega)
    have HHT := hidd (fun (hc : circB N bs = true) => lc_0 (n := (N : Int)) (k := k) hi (by rw [Int.toNat_natCast]; exact hc))
    have HHF := hidd (fun (hc : circB N bs = false) => lc_5 (n := (N : Int)) (k := k) hi (by rw [Int.toNat_natCast]; exact hc))
    rw [Int.toNat_natCast] at HHT
    clear hi
    by_cases hN : N = 1
    · obtain ⟨e1, e2⟩ := HHF.out (by rw [hN]; rfl)
      rw [e1, e2]
      have hz : ((N : Int) == 1) = true := by rw [beq_iff_eq]; omega
      clear e1 e2 hN
      go_enter Try.func29, Try.ntmps29
      go_wp2_with (refine wpList_load_row rfl 25 (.tmp 1) rfl w.heap.size rfl 25 _ (0,0) _ (Blk.new _ _ _ _ rfl) Try.underlying25 rfl HS.out ?_)
      refine (implIs_any (N : Int) k bs hb _).mono ?_
      rintro e w1 ⟨rfl, hb1⟩
      rw [HI.out]
      have G := hidd (And.intro ((Blk.new w (ccells (N : Int) k bs).toArray 25 _ rfl).below hb1 (by simp)) (((Below.refl w.heap.size w).alloc (Nat.le_refl _) (.cells (ccells (N : Int) k bs).toArray 25)).trans (hb1.mono (by simp))))
      have c0 := G.out.1.cell HC0.out
      clear hb1
      go_wp2_with (refine wpList_load_row rfl 25 (.tmp 1) rfl w.heap.size rfl 25 _ (0,0) _ G.out.1 Try.underlying25 rfl HS.out ?_)
      rw [HHALF.out]
      refine (first68 (N : Int) k bs hb (N / 2) (by omega) n2 w1).mono ?_
      rintro e w2 ⟨a, rfl, hown, hb2⟩
      have G2 := hidd (And.intro (G.out.1.below hb2 G.out.1.lt) (G.out.2.trans (hb2.mono G.out.2.size)))
      clear hb2 hown c0
      have c0 := G2.out.1.cell HC0.out
      go_wp2_with fail
      refine wp_region_quiet_at (fun w' => Below w2.heap.size w2 w') rfl (by kernel_rfl) ((Below.refl _ _).drew) ?_
      refine qs rfl (fun KQ hKQ => ?_)
      apply Exists.intro
      refine ⟨fun w' hw' => ?_, ?_⟩
      · go_simp; exact rfl
      go_simp
      refine hKQ _ ?_
      clear hKQ KQ
      refine qs rfl (fun KQ hKQ => ?_)
      apply Exists.intro
      refine ⟨fun w' hw' => ?_, ?_⟩
      · have c0 := (G2.out.1.below hw' G2.out.1.lt).cell HC0.out; go_simp; exact rfl
      go_simp
      refine hKQ _ ?_
      clear hKQ KQ
      refine qs rfl (fun KQ hKQ => ?_)
      apply Exists.intro
      refine ⟨fun w' hw' => ?_, ?_⟩
      · go_simp; exact rfl
      go_simp
      refine hKQ _ ?_
      clear hKQ KQ
      refine qs rfl (fun KQ hKQ => ?_)
      apply Exists.intro
      refine ⟨fun w' hw' => ?_, ?_⟩
      · go_simp; exact rfl
      go_simp
      refine hKQ _ ?_
      clear hKQ KQ
      go_big_quiet_skip
      go_big_quiet_skip
      go_big_quiet_skip
      go_big_quiet_skip
      go_big_quiet_skip
      go_big_quiet_skip
      go_big_quiet_skip
      go_big_quiet_skip
      go_big_quiet_skip
      refine qs rfl (fun KQ hKQ => ?_)
      apply Exists.intro
      refine ⟨fun w' hw' => ?_, ?_⟩
      · go_simp; exact rfl
      go_simp
      refine hKQ _ ?_
      clear hKQ KQ
      refine wpQuiet_nil ?_
      intro w' hw'
      have R := hidd (G2.out.2.trans (hw'.mono G2.out.2.size))
      clear hw'
      go_wp2_with fail
      go_ret2
      exact lout_nil rfl R.out
    · have hz : ((N : Int) == 1) = false := by rw [beq_eq_false_iff_ne]; omega
      obtain ⟨PB, hPB⟩ : ∃ PB, PB = lcP N bs := ⟨_, rfl⟩
      have HPB := hidd (show Bys PB by rw [hPB]; exact lcP_bys hb N)
      have HCI := hidd (fun W => circ47 (lst15 (lcL N bs)) N k W (lst15_len _) (by omega) (by omega) (lst15_rng (fcol_rng hb _)))
      rw [circ_lst N (lcL N bs) (by omega), show paintB N (fun lo hi => (lcL N bs).getD (dst N lo hi - 1) 0) = PB from hPB.symm] at HCI
      have HL := hidd (fun (a : Option Addr) (cap : Nat) W (hW : SlI W a (lcL N bs)) => by have h := list48 (lcL N bs) a cap W hW (by rw [lcL_len]; omega) (by rw [lcL_len]; omega); rw [lcL_len] at h; exact h)
      cases hq : (PB == bs) with
      | true =>
        obtain ⟨e1, e2⟩ := HHT.out (by unfold circB; rw [← hPB, hq, decide_eq_true (by omega)]; rfl)
        rw [e1, e2]
        have HQ := hidd hq
        clear e1 e2 hN hPB hq
        go_enter Try.func29, Try.ntmps29
        go_wp2_with (refine wpList_load_row rfl 25 (.tmp 1) rfl w.heap.size rfl 25 _ (0,0) _ (Blk.new _ _ _ _ rfl) Try.underlying25 rfl HS.out ?_)
        refine (implIs_any (N : Int) k bs hb _).mono ?_
        rintro e w1 ⟨rfl, hb1⟩
        rw [HI.out]
        have G := hidd (And.intro ((Blk.new w (ccells (N : Int) k bs).toArray 25 _ rfl).below hb1 (by simp)) (((Below.refl w.heap.size w).alloc (Nat.le_refl _) (.cells (ccells (N : Int) k bs).toArray 25)).trans (hb1.mono (by simp))))
        have c0 := G.out.1.cell HC0.out
        clear hb1
        go_wp2_with (refine wpList_load_row rfl 25 (.tmp 1) rfl w.heap.size rfl 25 _ (0,0) _ G.out.1 Try.underlying25 rfl HS.out ?_)
        rw [HHALF.out]
        refine (first68 (N : Int) k bs hb (N / 2) (by omega) n2 w1).mono ?_
        rintro e w2 ⟨a, rfl, hown, hb2⟩
        have G2 := hidd (And.intro (G.out.1.below hb2 G.out.1.lt) (And.intro (G.out.2.trans (hb2.mono G.out.2.size)) hown))
        clear hb2 hown c0
        go_wp2_with fail
        refine wp_region_quiet_at (fun w' => Below w2.heap.size w2 w') rfl (by kernel_rfl) ((Below.refl _ _).drew) ?_
        refine qs rfl (fun KQ hKQ => ?_)
        apply Exists.intro
        refine ⟨fun w' hw' => ?_, ?_⟩
        · go_simp; exact rfl
        go_simp
        refine hKQ _ ?_
        clear hKQ KQ
        refine qs rfl (fun KQ hKQ => ?_)
        apply Exists.intro
        refine ⟨fun w' hw' => ?_, ?_⟩
        · have c0 := (G2.out.1.below hw' G2.out.1.lt).cell HC0.out; go_simp; exact rfl
        go_simp
        refine hKQ _ ?_
        clear hKQ KQ
        refine qs rfl (fun KQ hKQ => ?_)
        apply Exists.intro
        refine ⟨fun w' hw' => ?_, ?_⟩
        · go_simp; exact rfl
        go_simp
        refine hKQ _ ?_
        clear hKQ KQ
        refine qs rfl (fun KQ hKQ => ?_)
        apply Exists.intro
        refine ⟨fun w' hw' => ?_, ?_⟩
        · go_simp; exact rfl
        go_simp
        refine hKQ _ ?_
        clear hKQ KQ
        go_big_quiet_want
        apply Exists.intro
        refine ⟨fun w' hw' => ?_, ?_⟩
        · go_simp; exact rfl
        go_simp
        go_big_quiet_on
        go_big_quiet_want
        apply Exists.intro
        refine ⟨fun w' hw' => ?_, ?_⟩
        · have c0 := (G2.out.1.below hw' G2.out.1.lt).cell HC0.out; go_simp; exact rfl
        go_simp
        go_big_quiet_on
        go_big_quiet_want
        apply Exists.intro
        refine ⟨fun w' hw' => ?_, ?_⟩
        · go_simp; exact rfl
        go_simp
        go_big_quiet_on
        go_big_quiet_want
        apply Exists.intro
        refine ⟨fun w' hw' => ?_, ?_⟩
        · have c0 := (G2.out.1.below hw' G2.out.1.lt).cell HC1.out; go_simp; exact rfl
        go_simp
        go_big_quiet_on
        go_big_quiet_want
        apply Exists.intro
        refine ⟨fun w' hw' => ?_, ?_⟩
        · go_simp; exact rfl
        go_simp
        go_big_quiet_on
        go_big_quiet_want
        apply Exists.intro
        refine ⟨fun w' hw' => ?_, ?_⟩
        · go_simp; exact (HL.out a _ _ (G2.out.2.2.sl.below hw' (Nat.le_refl _))).mono fun _ _ h => ⟨h.1, hw'.trans (h.2.mono hw'.size)⟩
        go_simp
        go_big_quiet_on
        go_big_quiet_want
        apply Exists.intro
        refine ⟨fun w' hw' => ?_, ?_⟩
        · go_simp; exact (HCI.out _).mono fun _ _ h => ⟨h.1, hw'.trans (h.2.mono hw'.size)⟩
        go_simp
        go_big_quiet_on
        go_big_quiet_want
        apply Exists.intro
        refine ⟨fun w' hw' => ?_, ?_⟩
        · exact quietRow 25 (.tmp 1) rfl w.heap.size rfl 25 _ _ (G2.out.1.below hw' G2.out.1.lt) Try.underlying25 rfl HS.out
        go_simp
        go_big_quiet_on
        go_big_quiet_want
        apply Exists.intro
        refine ⟨fun w' hw' => ?_, ?_⟩
        · exact quietNeq25 _ _ rfl (N : Int) k PB bs HPB.out hb rfl rfl
        go_simp
        go_big_quiet_on
        refine qs rfl (fun KQ hKQ => ?_)
        apply Exists.intro
        refine ⟨fun w' hw' => ?_, ?_⟩
        · go_simp; exact rfl
        go_simp
        refine hKQ _ ?_
        clear hKQ KQ
        refine wpQuiet_nil ?_
        intro w' hw'
        rw [HQ.out]
        have R := hidd (And.intro (G2.out.2.2.below hw' (Nat.le_refl _)) (G2.out.2.1.trans (hw'.mono G2.out.2.1.size)))
        have HLN := hidd (lcL_len N bs)
        clear hw'
        go_wp2_with fail
        go_ret2
        exact ⟨a, N / 2, by rw [HLN.out]; rfl, ownL_base R.out.1 (by have := G.out.2.size; omega), R.out.2⟩
      | false =>
        obtain ⟨e1, e2⟩ := HHF.out (by unfold circB; rw [← hPB, hq, Bool.and_false])
        rw [e1, e2]
        have HQ := hidd hq
        clear e1 e2 hN hPB hq
        go_enter Try.func29, Try.ntmps29
        go_wp2_with (refine wpList_load_row rfl 25 (.tmp 1) rfl w.heap.size rfl 25 _ (0,0) _ (Blk.new _ _ _ _ rfl) Try.underlying25 rfl HS.out ?_)
        refine (implIs_any (N : Int) k bs hb _).mono ?_
        rintro e w1 ⟨rfl, hb1⟩
        rw [HI.out]
        have G := hidd (And.intro ((Blk.new w (ccells (N : Int) k bs).toArray 25 _ rfl).below hb1 (by simp)) (((Below.refl w.heap.size w).alloc (Nat.le_refl _) (.cells (ccells (N : Int) k bs).toArray 25)).trans (hb1.mono (by simp))))
        have c0 := G.out.1.cell HC0.out
        clear hb1
        go_wp2_with (refine wpList_load_row rfl 25 (.tmp 1) rfl w.heap.size rfl 25 _ (0,0) _ G.out.1 Try.underlying25 rfl HS.out ?_)
        rw [HHALF.out]
        refine (first68 (N : Int) k bs hb (N / 2) (by omega) n2 w1).mono ?_
        rintro e w2 ⟨a, rfl, hown, hb2⟩
        have G2 := hidd (And.intro (G.out.1.below hb2 G.out.1.lt) (And.intro (G.out.2.trans (hb2.mono G.out.2.size)) hown))
        clear hb2 hown c0
        go_wp2_with fail
        refine wp_region_quiet_at (fun w' => Below w2.heap.size w2 w') rfl (by kernel_rfl) ((Below.refl _ _).drew) ?_
        refine qs rfl (fun KQ hKQ => ?_)
        apply Exists.intro
        refine ⟨fun w' hw' => ?_, ?_⟩
        · go_simp; exact rfl
        go_simp
        refine hKQ _ ?_
        clear hKQ KQ
        refine qs rfl (fun KQ hKQ => ?_)
        apply Exists.intro
        refine ⟨fun w' hw' => ?_, ?_⟩
        · have c0 := (G2.out.1.below hw' G2.out.1.lt).cell HC0.out; go_simp; exact rfl
        go_simp
        refine hKQ _ ?_
        clear hKQ KQ
        refine qs rfl (fun KQ hKQ => ?_)
        apply Exists.intro
        refine ⟨fun w' hw' => ?_, ?_⟩
        · go_simp; exact rfl
        go_simp
        refine hKQ _ ?_
        clear hKQ KQ
        refine qs rfl (fun KQ hKQ => ?_)
        apply Exists.intro
        refine ⟨fun w' hw' => ?_, ?_⟩
        · go_simp; exact rfl
        go_simp
        refine hKQ _ ?_
        clear hKQ KQ
        go_big_quiet_want
        apply Exists.intro
        refine ⟨fun w' hw' => ?_, ?_⟩
        · go_simp; exact rfl
        go_simp
        go_big_quiet_on
        go_big_quiet_want
        apply Exists.intro
        refine ⟨fun w' hw' => ?_, ?_⟩
        · have c0 := (G2.out.1.below hw' G2.out.1.lt).cell HC0.out; go_simp; exact rfl
        go_simp
        go_big_quiet_on
        go_big_quiet_want
        apply Exists.intro
        refine ⟨fun w' hw' => ?_, ?_⟩
        · go_simp; exact rfl
        go_simp
        go_big_quiet_on
        go_big_quiet_want
        apply Exists.intro
        refine ⟨fun w' hw' => ?_, ?_⟩
        · have c0 := (G2.out.1.below hw' G2.out.1.lt).cell HC1.out; go_simp; exact rfl
        go_simp
        go_big_quiet_on
        go_big_quiet_want
        apply Exists.intro
        refine ⟨fun w' hw' => ?_, ?_⟩
        · go_simp; exact rfl
        go_simp
        go_big_quiet_on
        go_big_quiet_want
        apply Exists.intro
        refine ⟨fun w' hw' => ?_, ?_⟩
        · go_simp; exact (HL.out a _ _ (G2.out.2.2.sl.below hw' (Nat.le_refl _))).mono fun _ _ h => ⟨h.1, hw'.trans (h.2.mono hw'.size)⟩
        go_simp
        go_big_quiet_on
        go_big_quiet_want
        apply Exists.intro
        refine ⟨fun w' hw' => ?_, ?_⟩
        · go_simp; exact (HCI.out _).mono fun _ _ h => ⟨h.1, hw'.trans (h.2.mono hw'.size)⟩
        go_simp
        go_big_quiet_on
        go_big_quiet_want
        apply Exists.intro
        refine ⟨fun w' hw' => ?_, ?_⟩
        · exact quietRow 25 (.tmp 1) rfl w.heap.size rfl 25 _ _ (G2.out.1.below hw' G2.out.1.lt) Try.underlying25 rfl HS.out
        go_simp
        go_big_quiet_on
        go_big_quiet_want
        apply Exists.intro
        refine ⟨fun w' hw' => ?_, ?_⟩
        · exact quietNeq25 _ _ rfl (N : Int) k PB bs HPB.out hb rfl rfl
        go_simp
        go_big_quiet_on
        refine qs rfl (fun KQ hKQ => ?_)
        apply Exists.intro
        refine ⟨fun w' hw' => ?_, ?_⟩
        · go_simp; exact rfl
        go_simp
        refine hKQ _ ?_
        clear hKQ KQ
        refine wpQuiet_nil ?_
        intro w' hw'
        rw [HQ.out]
        have R := hidd (G2.out.2.1.trans (hw'.mono G2.out.2.1.size))
        clear hw'
        go_wp2_with fail
        go_ret2
        exact lout_nil rfl R.out
end Go.Proofs.Ytikcmgmgdbbcfaa
