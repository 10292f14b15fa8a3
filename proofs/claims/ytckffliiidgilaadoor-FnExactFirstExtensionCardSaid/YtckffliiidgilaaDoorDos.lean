/- enter: a colouring with sizes and a code. -/
import Derived.Test.YtckffliiidgilaaDoorDor
import Derived.WalkLawsBesides
namespace Go.Proofs.YtckffliiidgilaaDoor
set_option linter.unusedVariables false
set_option linter.unusedSimpArgs false
open Go Go.RowKit Go.Extern.Stop Go.Stop Go.Extern
theorem results_row_cell {P : Program} {fn : Func} {p u : Tmp} {ty tz : TypeId} (h : fn.results = #[.cell p ty, .cell u tz]) (tmps : Array Value) (w : World) (g q : Nat) (t : TypeId) (cs : Array Value) (d : TypeDesc) (v : Value)
    (hp : tmps.getD p undef = .pointer (some ⟨g, 0, none⟩)) (hu2 : tmps.getD u undef = .pointer (some ⟨q, 0, none⟩)) (hg : Blk w g cs t)
    (hu : P.underlying ty = some d) (hd : (match d with | .struct _ | .array _ _ => true | _ => false) = true) (hi : (P.info? ty).map (·.size) = some cs.size)
    (hv : (loadVar tz ⟨q, 0, none⟩).run P w = .ok v w) :
    (results fn tmps).run P w = .ok (.tuple #[.agg cs, v]) w := by
  have hp' : tmps[p]?.getD undef = .pointer (some ⟨g, 0, none⟩) := by simpa using hp
  have hu' : tmps[u]?.getD undef = .pointer (some ⟨q, 0, none⟩) := by simpa using hu2
  have h1 := run_loadVar_row w g t ty cs (0, 0) d hg hu hd hi
  simp [results, h, hp', hu', asAddr, Result.andThen, h1, hv]
theorem load_num {w : World} {q : Nat} {x : Int} (h : w.cell? ⟨q, 0, none⟩ = some (.int .i64 x)) : (loadVar 2 ⟨q, 0, none⟩).run Tryd.prog w = .ok (.int .i64 x) w := by
  go_simp
/-- What enter answers. -/
def enS (n k : Int) (bs : List Nat) (zs : List Int) (a : Option Addr) (cap : Nat) : List Value := if szCode n k bs zs = 0 then scl n k bs a zs.length cap else scl 0 0 zbl none 0 0
theorem enS_ok {n k : Int} {bs : List Nat} {zs : List Int} {a : Option Addr} {cap : Nat} (h : szCode n k bs zs = 0) : enS n k bs zs a cap = scl n k bs a zs.length cap := by unfold enS; rw [if_pos h]
theorem enS_bad {n k : Int} {bs : List Nat} {zs : List Int} {a : Option Addr} {cap : Nat} (h : szCode n k bs zs ≠ 0) : enS n k bs zs a cap = scl 0 0 zbl none 0 0 := by unfold enS; rw [if_neg h]
set_option maxRecDepth 100000 in
set_option maxHeartbeats 2000000 in
theorem enter58 (n k : Int) (bs : List Nat) (hb : Bys bs) (zs : List Int) (a : Option Addr) (cap : Nat) (e0 : Addr) (w : World) (hs : SlI w a zs) (hl : zs.length ≤ 1048576) (hE : Er w e0) :
    Calls Tryd.prog 58 #[.agg (ccells n k bs).toArray, .slice a zs.length cap] w fun e w' => e = .returned (.tuple #[.agg (enS n k bs zs a cap).toArray, .int .i64 (szCode n k bs zs)]) ∧ Below w.heap.size w w' := by
  have hmf : ∀ (fn : Fn) (first cap : Array Value) (w : World), (Instr.makeFunc fn first cap).run Tryd.prog w = .ok (.func fn first cap) w := fun _ _ _ _ => rfl
  have Hz := zero56
  have HS := hidd (size_c26 n k hb)
  have HIS := hidd (fun W => implIs_any n k bs hb W)
  have HSL := hidd hs
  have HE := hidd hE
  have HZ5 := hidd (size_s56 (n := 0) (k := 0) zbl_bys none 0 0)
  have HZ1 := hidd (scl_one (n := 0) (k := 0) (bs := zbl) (a := none) (l := 0) (c := 0))
  obtain ⟨W3, hW3⟩ : ∃ W3, W3 = ((w.alloc (.cells (ccells n k bs).toArray 28)).alloc (.cells (scl 0 0 zbl none 0 0).toArray 56)).alloc (.cells #[.int .i64 0] 2) := ⟨_, rfl⟩
  have g1 : Blk W3 w.heap.size (ccells n k bs).toArray 28 := by rw [hW3]; exact ((Blk.new _ _ _ _ rfl).alloc _).alloc _
  have g2 : Blk W3 (w.heap.size + 1) (scl 0 0 zbl none 0 0).toArray 56 := by rw [hW3]; exact (Blk.new _ _ _ _ (by simp)).alloc _
  have g3 : Blk W3 (w.heap.size + 1 + 1) #[.int .i64 0] 2 := by rw [hW3]; exact Blk.new _ _ _ _ (by simp)
  have g4 : Below w.heap.size w W3 := by rw [hW3]; exact (((Below.refl _ _).alloc (Nat.le_refl _) _).alloc (by simp) _).alloc (by simp; omega) _
  have G := hidd (And.intro g1 (And.intro g2 (And.intro g3 g4)))
  clear g1 g2 g3 g4 hs hE
  cases hi : isCol n k bs with
  | false =>
    have hc := szCode_1 (zs := zs) hi
    rw [enS_bad (by rw [hc]; omega), hc]
    have HI := hidd hi
    clear hc hi
    go_enter_defers Tryd.func58, Tryd.ntmps58
    go_upto_region 1 with fail
    rw [← hW3]
    clear hW3
    go_wp2_with (refine wpList_load_row rfl 28 (.tmp 2) rfl w.heap.size rfl 28 _ (0,0) _ G.out.1 Tryd.underlying28 rfl HS.out ?_)
    refine (HIS.out _).mono ?_
    rintro e w1 ⟨rfl, hb1⟩
    rw [HI.out]
    have g2 := G.out.2.1.below hb1 G.out.2.1.lt
    have g3 := G.out.2.2.1.below hb1 G.out.2.2.1.lt
    have g4 := G.out.2.2.2.trans (hb1.mono G.out.2.2.2.size)
    have h5 := g2.rowSame (scl 0 0 zbl none 0 0).toArray
    have h6 := g3.rowOther (w.heap.size + 1) (scl 0 0 zbl none 0 0).toArray (by omega)
    have h7 := below_setRow g4 (show w.heap.size ≤ w.heap.size + 1 by omega) (scl 0 0 zbl none 0 0).toArray
    have h8 := h6.cell (j := 0) rfl
    have h9 := h6.fro 0
    have hA := h5.other ⟨w.heap.size + 1 + 1, 0, none⟩ (.int .i64 1) (by simp)
    have hB := h6.same 0 (.int .i64 1)
    have hC := h7.setCell (p := ⟨w.heap.size + 1 + 1, 0, none⟩) (by simp; omega) (.int .i64 1)
    have K := hidd (And.intro hA (And.intro (hB.cell (j := 0) rfl) hC))
    have K2 := hidd g2
    clear g2 g3 g4 h5 h6 h7 hA hB hC hb1
    go_wp2_with (first
      | (refine wpList_zero56 rfl rfl ?_)
      | (refine wpList_store_row rfl 56 (.tmp 4) (.tmp 9) rfl (w.heap.size + 1) _ rfl rfl 56 _ K2.out HZ5.out rfl HZ1.out ?_))
    exact ⟨_, results_row_cell (fn := Tryd.f58) (p := 4) (u := 5) rfl _ _ (w.heap.size + 1) (w.heap.size + 1 + 1) 56 _ _ (.int .i64 1) rfl rfl K.out.1 Tryd.underlying56 rfl HZ5.out (load_num K.out.2.1), rfl, K.out.2.2⟩
  | true =>
    obtain ⟨n1, n2, k1, k2⟩ := isCol_bd hi
    cases ho : szOk k zs with
    | true =>
      have hc := szCode_0 hi ho
      rw [enS_ok hc, hc]
      have HI := hidd hi
      have HSD := hidd (fun W h => sized91_ok n k bs hb zs a cap W h hl ho)
      have HS5 := hidd (size_s56 (n := n) (k := k) hb a zs.length cap)
      have HO5 := hidd (show (scl 0 0 zbl none 0 0).toArray.size = (scl n k bs a zs.length cap).toArray.size by simp [scl_len zbl_bys, scl_len hb])
      have HA5 := hidd (scl_one (n := n) (k := k) (bs := bs) (a := a) (l := zs.length) (c := cap))
      clear hc hi ho
      go_enter_defers Tryd.func58, Tryd.ntmps58
      go_upto_region 1 with fail
      rw [← hW3]
      clear hW3
      go_wp2_with (refine wpList_load_row rfl 28 (.tmp 2) rfl w.heap.size rfl 28 _ (0,0) _ G.out.1 Tryd.underlying28 rfl HS.out ?_)
      refine (HIS.out _).mono ?_
      rintro e w1 ⟨rfl, hb1⟩
      rw [HI.out]
      have K1 := hidd (And.intro (G.out.1.below hb1 G.out.1.lt) (And.intro (G.out.2.1.below hb1 G.out.2.1.lt) (And.intro (G.out.2.2.1.below hb1 G.out.2.2.1.lt) (G.out.2.2.2.trans (hb1.mono G.out.2.2.2.size)))))
      clear hb1
      go_wp2_with (refine wpList_load_row rfl 28 (.tmp 2) rfl w.heap.size rfl 28 _ (0,0) _ K1.out.1 Tryd.underlying28 rfl HS.out ?_)
      refine (HSD.out _ (HSL.out.below K1.out.2.2.2 (Nat.le_refl _))).mono ?_
      rintro e w2 ⟨rfl, hb2⟩
      have g2 := K1.out.2.1.below hb2 K1.out.2.1.lt
      have g3 := K1.out.2.2.1.below hb2 K1.out.2.2.1.lt
      have g4 := K1.out.2.2.2.trans (hb2.mono K1.out.2.2.2.size)
      have h5 := g2.rowSame (scl n k bs a zs.length cap).toArray
      have h6 := g3.rowOther (w.heap.size + 1) (scl n k bs a zs.length cap).toArray (by omega)
      have h7 := below_setRow g4 (show w.heap.size ≤ w.heap.size + 1 by omega) (scl n k bs a zs.length cap).toArray
      have h8 := h6.cell (j := 0) rfl
      have h9 := h6.fro 0
      have hA := h5.other ⟨w.heap.size + 1 + 1, 0, none⟩ (.int .i64 0) (by simp)
      have hB := h6.same 0 (.int .i64 0)
      have hC := h7.setCell (p := ⟨w.heap.size + 1 + 1, 0, none⟩) (by simp; omega) (.int .i64 0)
      have K := hidd (And.intro hA (And.intro (hB.cell (j := 0) rfl) hC))
      have K2 := hidd g2
      clear g2 g3 g4 h5 h6 h7 hA hB hC hb2
      go_wp2_with (first
        | (refine wpList_store_row rfl 56 (.tmp 4) (.tmp 13) rfl (w.heap.size + 1) _ rfl rfl 56 _ K2.out HS5.out HO5.out HA5.out ?_))
      refine leaves_cons (f := 89) (args := #[.pointer (some ⟨w.heap.size + 1 + 1, 0, none⟩)]) (by simp) (by simp [go_sem]) ?_
      refine (catch_idle ⟨w.heap.size + 1 + 1, 0, none⟩ _).mono ?_
      rintro e u' w'' ⟨rfl, rfl, rfl⟩
      exact ⟨_, results_row_cell (fn := Tryd.f58) (p := 4) (u := 5) rfl _ _ (w.heap.size + 1) (w.heap.size + 1 + 1) 56 _ _ (.int .i64 0) rfl rfl K.out.1 Tryd.underlying56 rfl HS5.out (load_num K.out.2.1), rfl, K.out.2.2⟩
    | false =>
      have hc := szCode_2 hi ho
      rw [enS_bad (by rw [hc]; omega), hc]
      have HI := hidd hi
      have HSD := hidd (fun W h hE => sized91_bad n k bs hb zs a cap e0 W h hl ho hE)
      clear hc hi ho
      go_enter_defers Tryd.func58, Tryd.ntmps58
      go_upto_region 1 with fail
      rw [← hW3]
      clear hW3
      go_wp2_with (refine wpList_load_row rfl 28 (.tmp 2) rfl w.heap.size rfl 28 _ (0,0) _ G.out.1 Tryd.underlying28 rfl HS.out ?_)
      refine (HIS.out _).mono ?_
      rintro e w1 ⟨rfl, hb1⟩
      rw [HI.out]
      have K1 := hidd (And.intro (G.out.1.below hb1 G.out.1.lt) (And.intro (G.out.2.1.below hb1 G.out.2.1.lt) (And.intro (G.out.2.2.1.below hb1 G.out.2.2.1.lt) (G.out.2.2.2.trans (hb1.mono G.out.2.2.2.size)))))
      clear hb1
      go_wp2_with (refine wpList_load_row rfl 28 (.tmp 2) rfl w.heap.size rfl 28 _ (0,0) _ K1.out.1 Tryd.underlying28 rfl HS.out ?_)
      refine (HSD.out _ (HSL.out.below K1.out.2.2.2 (Nat.le_refl _)) (HE.out.below K1.out.2.2.2 HE.out.lt)).mono ?_
      rintro e w2 ⟨rfl, hb2⟩
      have g2 := K1.out.2.1.below hb2 K1.out.2.1.lt
      have g3 := K1.out.2.2.1.below hb2 K1.out.2.2.1.lt
      have g4 := K1.out.2.2.2.trans (hb2.mono K1.out.2.2.2.size)
      have hE2 : Er w2 e0 := HE.out.below g4 HE.out.lt
      have h8 := g3.cell (j := 0) rfl
      have h9 := g3.fro 0
      have hA := g2.other ⟨w.heap.size + 1 + 1, 0, none⟩ (.int .i64 2) (by simp)
      have hB := g3.same 0 (.int .i64 2)
      have hC := g4.setCell (p := ⟨w.heap.size + 1 + 1, 0, none⟩) (by simp; omega) (.int .i64 2)
      have K := hidd (And.intro hA (And.intro (hB.cell (j := 0) rfl) hC))
      clear g2 g3 g4 hA hB hC hb2
      simp only []
      refine leaves_cons (f := 89) (args := #[.pointer (some ⟨w.heap.size + 1 + 1, 0, none⟩)]) (by simp) (by simp [go_sem]) ?_
      refine (catch_panicking (w.heap.size + 1 + 1) e0 0 _ hE2 h8 h9).mono ?_
      rintro e u' w'' ⟨rfl, rfl, rfl⟩
      exact ⟨_, results_row_cell (fn := Tryd.f58) (p := 4) (u := 5) rfl _ _ (w.heap.size + 1) (w.heap.size + 1 + 1) 56 _ _ (.int .i64 2) rfl rfl K.out.1 Tryd.underlying56 rfl HZ5.out (load_num K.out.2.1), rfl, K.out.2.2⟩
end Go.Proofs.YtckffliiidgilaaDoor
