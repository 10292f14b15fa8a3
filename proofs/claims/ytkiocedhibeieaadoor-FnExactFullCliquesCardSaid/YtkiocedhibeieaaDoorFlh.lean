/- FullCliques: the program; what it answers where the colouring or the colour is wrong. -/
import Derived.Test.YtkiocedhibeieaaDoorFlg
namespace Go.Proofs.YtkiocedhibeieaaDoor
set_option linter.unusedVariables false
set_option linter.unusedSimpArgs false
open Go Go.RowKit Go.Shelf
/-- The colouring's box and the two results' cells. -/
def Cl3 (C : Array Value) (w W : World) : Prop :=
  Blk W w.heap.size C 28 ∧ Blk W (w.heap.size + 1) #[.slice none 0 0] 37 ∧ Blk W (w.heap.size + 1 + 1) #[.int .i64 0] 2 ∧ Below w.heap.size w W
theorem cl3_start (C : Array Value) (w : World) : Cl3 C w (((w.alloc (Obj.cells C 28)).alloc (Obj.cells #[.slice none 0 0] 37)).alloc (Obj.cells #[.int .i64 0] 2)) :=
  ⟨((Blk.new _ _ _ _ rfl).alloc _).alloc _, (Blk.new _ _ _ _ (by simp)).alloc _, Blk.new _ _ _ _ (by simp),
    (((Below.refl _ _).alloc (Nat.le_refl _) _).alloc (by simp) _).alloc (by simp; omega) _⟩
theorem Cl3.below {C : Array Value} {w W W' : World} (h : Cl3 C w W) (hb : Below W.heap.size W W') : Cl3 C w W' :=
  ⟨h.1.below hb h.1.lt, h.2.1.below hb h.2.1.lt, h.2.2.1.below hb h.2.2.1.lt, h.2.2.2.trans (hb.mono h.2.2.2.size)⟩
theorem Cl3.belowB {C : Array Value} {w W W' : World} (h : Cl3 C w W) {B : Nat} (hb : Below B W W') (hB : w.heap.size + 1 + 1 < B) : Cl3 C w W' :=
  ⟨h.1.below hb (by omega), h.2.1.below hb (by omega), h.2.2.1.below hb hB, h.2.2.2.trans (hb.mono (by omega))⟩
theorem Cl3.set {C : Array Value} {w W : World} (h : Cl3 C w W) (p : Addr) (u : Value) (hp : w.heap.size + 1 + 1 < p.block) : Cl3 C w (W.setCell p u) :=
  ⟨h.1.other p u (by omega), h.2.1.other p u (by omega), h.2.2.1.other p u (by omega), h.2.2.2.setCell (by omega) u⟩
theorem cl3_own {C : Array Value} {w W W' : World} {B : Nat} {row : Option Nat} (h : Cl3 C w W) (hB : w.heap.size ≤ B) (hg : W.grownBy W' row) (hr : ∀ r, row = some r → B ≤ r ∧ ∃ o : Obj, W.heap[r]? = some o ∧ o.isCells = false) : Cl3 C w W' :=
  ⟨blk_own h.1 hg hr, blk_own h.2.1 hg hr, blk_own h.2.2.1 hg hr, ownFrom_below (β := Unit) (Nat.le_refl _) hB () W W' row h.2.2.2 hg hr⟩
/-- Both results stored. -/
theorem cl3_stores {C : Array Value} {w W : World} (h : Cl3 C w W) (v : Value) (cd : Int) :
    Blk ((W.setCell ⟨w.heap.size + 1, 0, none⟩ v).setCell ⟨w.heap.size + 1 + 1, 0, none⟩ (.int .i64 cd)) (w.heap.size + 1) #[v] 37 ∧
    Blk ((W.setCell ⟨w.heap.size + 1, 0, none⟩ v).setCell ⟨w.heap.size + 1 + 1, 0, none⟩ (.int .i64 cd)) (w.heap.size + 1 + 1) #[.int .i64 cd] 2 ∧
    Below w.heap.size w ((W.setCell ⟨w.heap.size + 1, 0, none⟩ v).setCell ⟨w.heap.size + 1 + 1, 0, none⟩ (.int .i64 cd)) :=
  ⟨(h.2.1.same 0 _).other _ _ (by show w.heap.size + 1 ≠ w.heap.size + 1 + 1; omega), (h.2.2.1.other _ _ (by show w.heap.size + 1 + 1 ≠ w.heap.size + 1; omega)).same 0 _,
    (h.2.2.2.setCell (by show w.heap.size ≤ w.heap.size + 1; omega) _).setCell (by show w.heap.size ≤ w.heap.size + 1 + 1; omega) _⟩
set_option maxRecDepth 100000 in
set_option maxHeartbeats 1000000 in
theorem impl28_1 (n k : Int) (bs : List Nat) (hb : Bys bs) (c : Int) (w : World) (hi : isCol n k bs = false) :
    Calls Tryd.prog 28 #[.agg (ccells n k bs).toArray, .int .i64 c] w (LLOut w [] 1) := by
  have HS := hidd (size_c26 n k hb)
  have HI := hidd hi
  have H3 := hidd (cl3_start (ccells n k bs).toArray w)
  clear hi
  go_enter Tryd.func28, Tryd.ntmps28
  go_wp2_with fail
  refine wp_scope_straight ?_
  go_wp2_with (refine wpList_load_row rfl 28 (.tmp 2) rfl w.heap.size rfl 28 _ (0,0) _ H3.out.1 Tryd.underlying28 rfl HS.out ?_)
  refine (implIs_any n k bs hb _).mono ?_
  rintro e w1 ⟨rfl, hb1⟩
  rw [HI.out]
  have G := hidd (H3.out.below hb1)
  have R := hidd (cl3_stores G.out (.slice none 0 0) 1)
  have c6 := G.out.2.1.cell (j := 0) (show _ = some (Value.slice none 0 0) from rfl)
  have f6 := G.out.2.1.fro 0
  have c7 := G.out.2.2.1.cell (j := 0) (show _ = some (Value.int .i64 0) from rfl)
  have f7 := G.out.2.2.1.fro 0
  clear hb1
  go_wp2_with fail
  refine bodyPost_ret (results_cells2 rfl _ _ (w.heap.size + 1) (w.heap.size + 1 + 1) _ _ rfl rfl (load37 (R.out.1.cell (j := 0) rfl)) (load2 (R.out.2.1.cell (j := 0) rfl))) rfl ?_
  exact ⟨none, 0, rfl, .inl rfl, R.out.2.2⟩
set_option maxRecDepth 100000 in
set_option maxHeartbeats 1000000 in
theorem impl28_2 (n k : Int) (bs : List Nat) (hb : Bys bs) (c : Int) (w : World) (hi : isCol n k bs = true) (hc : belowB c k = false) :
    Calls Tryd.prog 28 #[.agg (ccells n k bs).toArray, .int .i64 c] w (LLOut w [] 2) := by
  have HS := hidd (size_c26 n k hb)
  have HI := hidd hi
  have H3 := hidd (cl3_start (ccells n k bs).toArray w)
  have HC1 := hidd (show (ccells n k bs).toArray[1]? = some (.int .i64 k) from rfl)
  have HC := hidd hc
  clear hi hc
  go_enter Tryd.func28, Tryd.ntmps28
  go_wp2_with fail
  refine wp_scope_straight ?_
  go_wp2_with (refine wpList_load_row rfl 28 (.tmp 2) rfl w.heap.size rfl 28 _ (0,0) _ H3.out.1 Tryd.underlying28 rfl HS.out ?_)
  refine (implIs_any n k bs hb _).mono ?_
  rintro e w1 ⟨rfl, hb1⟩
  rw [HI.out]
  have G := hidd (H3.out.below hb1)
  have R := hidd (cl3_stores G.out (.slice none 0 0) 2)
  have c1 := G.out.1.cell HC1.out
  have c6 := G.out.2.1.cell (j := 0) (show _ = some (Value.slice none 0 0) from rfl)
  have f6 := G.out.2.1.fro 0
  have c7 := G.out.2.2.1.cell (j := 0) (show _ = some (Value.int .i64 0) from rfl)
  have f7 := G.out.2.2.1.fro 0
  clear hb1
  go_wp2_with (go_at_call 50; refine (below61 _ _ _).mono ?_; rintro e w' ⟨rfl, rfl⟩; rw [HC.out])
  refine bodyPost_ret (results_cells2 rfl _ _ (w.heap.size + 1) (w.heap.size + 1 + 1) _ _ rfl rfl (load37 (R.out.1.cell (j := 0) rfl)) (load2 (R.out.2.1.cell (j := 0) rfl))) rfl ?_
  exact ⟨none, 0, rfl, .inl rfl, R.out.2.2⟩
end Go.Proofs.YtkiocedhibeieaaDoor
