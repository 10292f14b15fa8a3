/- The position behind a move: the program. -/
import Derived.Test.YteclbaalejondaaFri
namespace Go.Proofs.Yteclbaalejondaa
set_option linter.unusedVariables false
set_option linter.unusedSimpArgs false
open Go Go.RowKit Go.Shelf
set_option maxRecDepth 100000 in
set_option maxHeartbeats 2000000 in
theorem after46_0 (N : Nat) (zs : List Int) (h : Pos N zs) (hm : mvr zs = 0) (e : Nat) (he : e < zs.length) (hf : frB zs e = true) (w : World) :
    Calls Try.prog 46 #[psL N zs, .int .i64 (e : Int)] w fun x w' => x = .returned (psL N (aft zs e)) ∧ Below w.heap.size w w' := by
  have hl10 := h.l10
  have ht := tkn_lt (P := 0) (zs := zs) h.l10
  have HM := hidd (fun w => mov33 N zs h.l10 w)
  have hneg : zs.getD e 0 < 0 := by simpa [frB] using hf
  have hbit := u16_bit ht (show e < 10 by omega)
  have HO := hidd (show psL N (aft zs e) = psV (N : Int) (tkn 0 zs zs.length ||| 2 ^ e) (tkn 1 zs zs.length) by
    unfold psL aft; rw [hm, tkn_set_own he, tkn_set_other he (by omega) (by decide)])
  rw [hm] at HM
  unfold psL at HM HO ⊢
  rw [HO.out]
  generalize tkn 0 zs zs.length = t0 at *
  generalize tkn 1 zs zs.length = t1 at *
  obtain ⟨X, hX⟩ : ∃ X, X = t0 ||| 2 ^ e := ⟨_, rfl⟩
  rw [← hX] at hbit ⊢
  have he0 : (0 : Int) ≤ (e : Int) := by omega
  have hmin : min e 16 = e := by omega
  have HB := hidd (show Blk ((w.alloc (.cells (psC (N : Int) t0 t1) 40)).alloc (.cells (psC 0 0 0) 40)) w.heap.size (psC (N : Int) t0 t1) 40 ∧ Blk ((w.alloc (.cells (psC (N : Int) t0 t1) 40)).alloc (.cells (psC 0 0 0) 40)) (w.heap.size + 1) (psC 0 0 0) 40 ∧ Below w.heap.size w ((w.alloc (.cells (psC (N : Int) t0 t1) 40)).alloc (.cells (psC 0 0 0) 40)) from
    ⟨(Blk.new _ _ _ _ rfl).alloc _, Blk.new _ _ _ _ (by simp), ((Below.refl _ _).alloc (Nat.le_refl _) _).alloc (by simp) _⟩)
  have Hz := zero40
  rw [psV_eq] at HM
  rw [psV_eq (N : Int) t0 t1]
  clear hX HO hneg hf h hm he
  go_enter Try.func46, Try.ntmps46
  go_wp2_with fail
  refine wp_region_last_lit 10 (fun w' => Blk w' w.heap.size (psC (N : Int) t0 t1) 40 ∧ Blk w' (w.heap.size + 1) (psC 0 0 0) 40 ∧ Below w.heap.size w w') rfl rfl (by kernel_rfl) ⟨HB.out.1.drew, HB.out.2.1.drew, HB.out.2.2.drew⟩ (by kernel_rfl) (by kernel_rfl) (by kernel_rfl) ?_
  simp only [List.take_succ_cons, List.take_zero, List.cons_append, List.nil_append, idle]
  refine qs rfl (fun KQ hKQ => ?_)
  apply Exists.intro
  refine ⟨fun w' hw' => ?_, ?_⟩
  · exact quietRow 40 (.tmp 2) rfl w.heap.size rfl 40 _ _ hw'.1 Try.underlying40 rfl size40
  go_simp
  refine hKQ _ ?_
  clear hKQ KQ
  refine qs rfl (fun KQ hKQ => ?_)
  apply Exists.intro
  refine ⟨fun w' hw' => ?_, ?_⟩
  · go_simp; exact (HM.out _).mono fun _ _ h => ⟨h.1, hw'.1.below h.2 hw'.1.lt, hw'.2.1.below h.2 hw'.2.1.lt, hw'.2.2.trans (h.2.mono hw'.2.2.size)⟩
  go_simp
  refine hKQ _ ?_
  clear hKQ KQ
  refine qs rfl (fun KQ hKQ => ?_)
  apply Exists.intro
  refine ⟨fun w' hw' => ?_, ?_⟩
  · go_simp; exact rfl
  go_simp
  refine hKQ _ ?_
  clear hKQ KQ
  refine qs rfl (fun KQ hKQ => ?_)
  apply Exists.intro
  refine ⟨fun w' hw' => ?_, ?_⟩
  · go_simp; exact rfl
  go_simp
  refine hKQ _ ?_
  clear hKQ KQ
  refine qs rfl (fun KQ hKQ => ?_)
  apply Exists.intro
  refine ⟨fun w' hw' => ?_, ?_⟩
  · have c1 := hw'.1.cell (j := 1) (show _ = some (Value.int .u16 (t0 : Int)) from rfl); go_simp; exact rfl
  go_simp
  refine hKQ _ ?_
  clear hKQ KQ
  refine qs rfl (fun KQ hKQ => ?_)
  apply Exists.intro
  refine ⟨fun w' hw' => ?_, ?_⟩
  · go_simp; exact rfl
  go_simp
  refine hKQ _ ?_
  clear hKQ KQ
  refine qs rfl (fun KQ hKQ => ?_)
  apply Exists.intro
  refine ⟨fun w' hw' => ?_, ?_⟩
  · go_simp; exact rfl
  go_simp
  refine hKQ _ ?_
  clear hKQ KQ
  refine qs rfl (fun KQ hKQ => ?_)
  apply Exists.intro
  refine ⟨fun w' hw' => ?_, ?_⟩
  · go_simp; exact rfl
  go_simp
  refine hKQ _ ?_
  clear hKQ KQ
  refine qs rfl (fun KQ hKQ => ?_)
  apply Exists.intro
  refine ⟨fun w' hw' => ?_, ?_⟩
  · go_simp; exact rfl
  go_simp
  refine hKQ _ ?_
  clear hKQ KQ
  refine qs rfl (fun KQ hKQ => ?_)
  apply Exists.intro
  refine ⟨fun w' hw' => ?_, ?_⟩
  · go_simp; exact rfl
  go_simp
  refine hKQ _ ?_
  clear hKQ KQ
  refine qs rfl (fun KQ hKQ => ?_)
  apply Exists.intro
  refine ⟨fun w' hw' => ?_, ?_⟩
  · go_simp; exact rfl
  go_simp
  refine hKQ _ ?_
  clear hKQ KQ
  refine wpQuiet_nil ?_
  intro w' hw'
  have c1 := hw'.1.cell (j := 1) (show _ = some (Value.int .u16 (t0 : Int)) from rfl)
  have f1 := hw'.1.fro 1
  have K := hidd (show Blk (w'.setCell ⟨w.heap.size, 1, none⟩ (.int .u16 (X : Int))) w.heap.size (psC (N : Int) X t1) 40 ∧ Blk (w'.setCell ⟨w.heap.size, 1, none⟩ (.int .u16 (X : Int))) (w.heap.size + 1) (psC 0 0 0) 40 ∧ Below w.heap.size w (w'.setCell ⟨w.heap.size, 1, none⟩ (.int .u16 (X : Int))) from
    ⟨hw'.1.same 1 _, hw'.2.1.other _ _ (Nat.succ_ne_self _), hw'.2.2.setCell (Nat.le_refl _) _⟩)
  have K2 := hidd (And.intro (K.out.2.1.rowSame (psC (N : Int) X t1)) (below_setRow K.out.2.2 (g := w.heap.size + 1) (by omega) (psC (N : Int) X t1)))
  clear hw' HB HM
  go_wp2_with (first
    | (refine wpList_load_row rfl 40 (.tmp 2) rfl w.heap.size rfl 40 _ (0,0) _ K.out.1 Try.underlying40 rfl size40 ?_)
    | (refine wpList_store_row rfl 40 (.tmp 4) (.tmp 15) rfl (w.heap.size + 1) (psC (N : Int) X t1) rfl rfl 40 _ K.out.2.1 size40 rfl (one_ps _ _ _) ?_))
  refine bodyPost_ret (results_cell_row rfl _ _ (w.heap.size + 1) 40 _ (0,0) _ rfl K2.out.1 Try.underlying40 rfl size40) rfl ⟨rfl, K2.out.2⟩
set_option maxRecDepth 100000 in
set_option maxHeartbeats 2000000 in
theorem after46_1 (N : Nat) (zs : List Int) (h : Pos N zs) (hm : mvr zs = 1) (e : Nat) (he : e < zs.length) (hf : frB zs e = true) (w : World) :
    Calls Try.prog 46 #[psL N zs, .int .i64 (e : Int)] w fun x w' => x = .returned (psL N (aft zs e)) ∧ Below w.heap.size w w' := by
  have hl10 := h.l10
  have ht := tkn_lt (P := 1) (zs := zs) h.l10
  have HM := hidd (fun w => mov33 N zs h.l10 w)
  have hneg : zs.getD e 0 < 0 := by simpa [frB] using hf
  have hbit := u16_bit ht (show e < 10 by omega)
  have HO := hidd (show psL N (aft zs e) = psV (N : Int) (tkn 0 zs zs.length) (tkn 1 zs zs.length ||| 2 ^ e) by
    unfold psL aft; rw [hm, tkn_set_own he, tkn_set_other he (by omega) (by decide)])
  rw [hm] at HM
  unfold psL at HM HO ⊢
  rw [HO.out]
  generalize tkn 0 zs zs.length = t0 at *
  generalize tkn 1 zs zs.length = t1 at *
  obtain ⟨X, hX⟩ : ∃ X, X = t1 ||| 2 ^ e := ⟨_, rfl⟩
  rw [← hX] at hbit ⊢
  have he0 : (0 : Int) ≤ (e : Int) := by omega
  have hmin : min e 16 = e := by omega
  have HB := hidd (show Blk ((w.alloc (.cells (psC (N : Int) t0 t1) 40)).alloc (.cells (psC 0 0 0) 40)) w.heap.size (psC (N : Int) t0 t1) 40 ∧ Blk ((w.alloc (.cells (psC (N : Int) t0 t1) 40)).alloc (.cells (psC 0 0 0) 40)) (w.heap.size + 1) (psC 0 0 0) 40 ∧ Below w.heap.size w ((w.alloc (.cells (psC (N : Int) t0 t1) 40)).alloc (.cells (psC 0 0 0) 40)) from
    ⟨(Blk.new _ _ _ _ rfl).alloc _, Blk.new _ _ _ _ (by simp), ((Below.refl _ _).alloc (Nat.le_refl _) _).alloc (by simp) _⟩)
  have Hz := zero40
  rw [psV_eq] at HM
  rw [psV_eq (N : Int) t0 t1]
  clear hX HO hneg hf h hm he
  go_enter Try.func46, Try.ntmps46
  go_wp2_with fail
  refine wp_region_last_lit 10 (fun w' => Blk w' w.heap.size (psC (N : Int) t0 t1) 40 ∧ Blk w' (w.heap.size + 1) (psC 0 0 0) 40 ∧ Below w.heap.size w w') rfl rfl (by kernel_rfl) ⟨HB.out.1.drew, HB.out.2.1.drew, HB.out.2.2.drew⟩ (by kernel_rfl) (by kernel_rfl) (by kernel_rfl) ?_
  simp only [List.take_succ_cons, List.take_zero, List.cons_append, List.nil_append, idle]
  refine qs rfl (fun KQ hKQ => ?_)
  apply Exists.intro
  refine ⟨fun w' hw' => ?_, ?_⟩
  · exact quietRow 40 (.tmp 2) rfl w.heap.size rfl 40 _ _ hw'.1 Try.underlying40 rfl size40
  go_simp
  refine hKQ _ ?_
  clear hKQ KQ
  refine qs rfl (fun KQ hKQ => ?_)
  apply Exists.intro
  refine ⟨fun w' hw' => ?_, ?_⟩
  · go_simp; exact (HM.out _).mono fun _ _ h => ⟨h.1, hw'.1.below h.2 hw'.1.lt, hw'.2.1.below h.2 hw'.2.1.lt, hw'.2.2.trans (h.2.mono hw'.2.2.size)⟩
  go_simp
  refine hKQ _ ?_
  clear hKQ KQ
  refine qs rfl (fun KQ hKQ => ?_)
  apply Exists.intro
  refine ⟨fun w' hw' => ?_, ?_⟩
  · go_simp; exact rfl
  go_simp
  refine hKQ _ ?_
  clear hKQ KQ
  refine qs rfl (fun KQ hKQ => ?_)
  apply Exists.intro
  refine ⟨fun w' hw' => ?_, ?_⟩
  · go_simp; exact rfl
  go_simp
  refine hKQ _ ?_
  clear hKQ KQ
  refine qs rfl (fun KQ hKQ => ?_)
  apply Exists.intro
  refine ⟨fun w' hw' => ?_, ?_⟩
  · have c1 := hw'.1.cell (j := 2) (show _ = some (Value.int .u16 (t1 : Int)) from rfl); go_simp; exact rfl
  go_simp
  refine hKQ _ ?_
  clear hKQ KQ
  refine qs rfl (fun KQ hKQ => ?_)
  apply Exists.intro
  refine ⟨fun w' hw' => ?_, ?_⟩
  · go_simp; exact rfl
  go_simp
  refine hKQ _ ?_
  clear hKQ KQ
  refine qs rfl (fun KQ hKQ => ?_)
  apply Exists.intro
  refine ⟨fun w' hw' => ?_, ?_⟩
  · go_simp; exact rfl
  go_simp
  refine hKQ _ ?_
  clear hKQ KQ
  refine qs rfl (fun KQ hKQ => ?_)
  apply Exists.intro
  refine ⟨fun w' hw' => ?_, ?_⟩
  · go_simp; exact rfl
  go_simp
  refine hKQ _ ?_
  clear hKQ KQ
  refine qs rfl (fun KQ hKQ => ?_)
  apply Exists.intro
  refine ⟨fun w' hw' => ?_, ?_⟩
  · go_simp; exact rfl
  go_simp
  refine hKQ _ ?_
  clear hKQ KQ
  refine qs rfl (fun KQ hKQ => ?_)
  apply Exists.intro
  refine ⟨fun w' hw' => ?_, ?_⟩
  · go_simp; exact rfl
  go_simp
  refine hKQ _ ?_
  clear hKQ KQ
  refine qs rfl (fun KQ hKQ => ?_)
  apply Exists.intro
  refine ⟨fun w' hw' => ?_, ?_⟩
  · go_simp; exact rfl
  go_simp
  refine hKQ _ ?_
  clear hKQ KQ
  refine wpQuiet_nil ?_
  intro w' hw'
  have c1 := hw'.1.cell (j := 2) (show _ = some (Value.int .u16 (t1 : Int)) from rfl)
  have f1 := hw'.1.fro 2
  have K := hidd (show Blk (w'.setCell ⟨w.heap.size, 2, none⟩ (.int .u16 (X : Int))) w.heap.size (psC (N : Int) t0 X) 40 ∧ Blk (w'.setCell ⟨w.heap.size, 2, none⟩ (.int .u16 (X : Int))) (w.heap.size + 1) (psC 0 0 0) 40 ∧ Below w.heap.size w (w'.setCell ⟨w.heap.size, 2, none⟩ (.int .u16 (X : Int))) from
    ⟨hw'.1.same 2 _, hw'.2.1.other _ _ (Nat.succ_ne_self _), hw'.2.2.setCell (Nat.le_refl _) _⟩)
  have K2 := hidd (And.intro (K.out.2.1.rowSame (psC (N : Int) t0 X)) (below_setRow K.out.2.2 (g := w.heap.size + 1) (by omega) (psC (N : Int) t0 X)))
  clear hw' HB HM
  go_wp2_with (first
    | (refine wpList_load_row rfl 40 (.tmp 2) rfl w.heap.size rfl 40 _ (0,0) _ K.out.1 Try.underlying40 rfl size40 ?_)
    | (refine wpList_store_row rfl 40 (.tmp 4) (.tmp 15) rfl (w.heap.size + 1) (psC (N : Int) t0 X) rfl rfl 40 _ K.out.2.1 size40 rfl (one_ps _ _ _) ?_))
  refine bodyPost_ret (results_cell_row rfl _ _ (w.heap.size + 1) 40 _ (0,0) _ rfl K2.out.1 Try.underlying40 rfl size40) rfl ⟨rfl, K2.out.2⟩
theorem after46 (N : Nat) (zs : List Int) (h : Pos N zs) (e : Nat) (he : e < zs.length) (hf : frB zs e = true) (w : World) :
    Calls Try.prog 46 #[psL N zs, .int .i64 (e : Int)] w fun x w' => x = .returned (psL N (aft zs e)) ∧ Below w.heap.size w w' := by
  rcases h.mov with hm | hm
  · exact after46_0 N zs h hm e he hf w
  · exact after46_1 N zs h hm e he hf w
end Go.Proofs.Yteclbaalejondaa
