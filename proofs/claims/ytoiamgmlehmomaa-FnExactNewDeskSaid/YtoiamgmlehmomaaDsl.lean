/- Desks: copies, openings. -/
import Derived.Test.YtoiamgmlehmomaaDsk
import Derived.Test.YtoiamgmlehmomaaRows
import Derived.ChangeOld
namespace Go.Proofs.Ytoiamgmlehmomaa
set_option linter.unusedVariables false
set_option linter.unusedSimpArgs false
open Go Go.RowKit Go.ChangeShapes Go.WideShapes Go.ChangeAt
set_option maxRecDepth 100000 in
set_option maxHeartbeats 1000000 in
theorem toDesk_any (n k : Int) (bs : List Nat) (m l : Int) (cs : List Nat) (hb : Bys bs) (hc : Bys cs) (w : World) :
    Calls Try.prog 13 #[.agg (dcl n k bs m l cs).toArray] w fun e w' => e = .returned (.agg (dcl n k bs m l cs).toArray) ∧ Below w.heap.size w w' := by
  have Hz := zero30
  have H1 := hidd (dcl_fst (n := n) (k := k) (m := m) (l := l) (bs := bs) (cs := cs))
  have H2 := hidd (dcl_snd (n := n) (k := k) (m := m) (l := l) (cs := cs) hb)
  have S1 := hidd (size_l34 n k hb)
  have S2 := hidd (size_l34 m l hc)
  have T1 := hidd (size_c26 n k hb)
  have T2 := hidd (size_c26 m l hc)
  have SD := hidd (size_d30 (n := n) (k := k) (m := m) (l := l) hb hc)
  have E1 := hidd (dcl_set1 (n := 0) (k := 0) (m := 0) (l := 0) (n' := n) (k' := k) zbl_bys hb zbl_bys)
  have E2 := hidd (dcl_set2 (n := n) (k := k) (m := 0) (l := 0) (m' := m) (l' := l) hb zbl_bys hc)
  have ZS := hidd (show (dcl 0 0 zbl 0 0 zbl).toArray.size = 276 by simp [dcl_len zbl_bys zbl_bys])
  have MS := hidd (show (dcl n k bs 0 0 zbl).toArray.size = 276 by simp [dcl_len hb zbl_bys])
  have FS := hidd (show (dcl n k bs m l cs).toArray.size = 276 by simp [dcl_len hb hc])
  have L1 := hidd (show (ccells n k bs).toArray.size = 138 by simp [cc138 hb])
  have L2 := hidd (show (ccells m l cs).toArray.size = 138 by simp [cc138 hc])
  have O1 := hidd (ccells_one n k bs)
  have O2 := hidd (ccells_one m l cs)
  have OD := hidd (dcl_one (n := n) (k := k) (m := m) (l := l) (bs := bs) (cs := cs))
  obtain ⟨Z, hZ⟩ : ∃ Z, Z = (dcl 0 0 zbl 0 0 zbl).toArray := ⟨_, rfl⟩
  obtain ⟨M, hM⟩ : ∃ Z, Z = (dcl n k bs 0 0 zbl).toArray := ⟨_, rfl⟩
  obtain ⟨C, hC⟩ : ∃ C, C = (dcl n k bs m l cs).toArray := ⟨_, rfl⟩
  rw [← hZ, ← hM] at E1
  rw [← hM, ← hC] at E2
  rw [← hZ] at Hz ZS
  rw [← hM] at MS
  rw [← hC] at H1 H2 SD FS OD
  rw [← hC]
  clear hC hZ hM
  go_enter Try.func13, Try.ntmps13
  go_wp2_with (refine wpList_load_mid rfl 34 (.tmp 4) rfl w.heap.size 0 rfl (ccells n k bs) _ ((((Blk.new w C 36 _ rfl).alloc _).alloc _).range 0 _ H1.out) Try.underlying34 rfl S1.out ?_)
  refine (toCol_any n k bs _ hb).mono ?_
  rintro e w1 ⟨rfl, hb1⟩
  have g0 : Blk w1 w.heap.size C 36 := (((Blk.new w C 36 _ rfl).alloc _).alloc _).below hb1 (by simp; omega)
  have g1 : Blk w1 (w.heap.size + 1) Z 30 := ((Blk.new _ _ _ _ (by simp)).alloc _).below hb1 (by simp)
  have g2 : Blk w1 (w.heap.size + 1 + 1) Z 30 := (Blk.new _ _ _ _ (by simp)).below hb1 (by simp)
  have g3 : Below w.heap.size w w1 := ((((Below.refl _ _).alloc (Nat.le_refl _) _).alloc (by simp) _).alloc (by simp; omega) _).trans (hb1.mono (by simp; omega))
  have T := hidd (g2.there 0 138 (by rw [ZS.out]; omega))
  have i2 := g2.cellsSame (ccells n k bs) 0
  rw [E1.out] at i2
  have i0 := g0.cellsOther (g := w.heap.size + 1 + 1) (by omega) (ccells n k bs) 0
  have i1 := g1.cellsOther (g := w.heap.size + 1 + 1) (by omega) (ccells n k bs) 0
  have i3 := below_setCells (b := w.heap.size + 1 + 1) (by omega) (ccells n k bs) 0 g3
  have G := hidd (And.intro i0 (And.intro i1 (And.intro i2 i3)))
  clear g0 g1 g2 g3 i0 i1 i2 i3 hb1
  go_wp2_with (first
    | (refine wpList_store_mid rfl 24 (.tmp 7) (.tmp 6) rfl (w.heap.size + 1 + 1) 0 _ rfl rfl (by rw [L1.out]; exact T.out) T1.out O1.out ?_)
    | (refine wpList_load_mid rfl 34 (.tmp 8) rfl w.heap.size 138 rfl (ccells m l cs) _ (G.out.1.range 138 _ H2.out) Try.underlying34 rfl S2.out ?_))
  refine (toCol_any m l cs _ hc).mono ?_
  rintro e w2 ⟨rfl, hb2⟩
  have g1 := G.out.2.1.below hb2 G.out.2.1.lt
  have g2 := G.out.2.2.1.below hb2 G.out.2.2.1.lt
  have g3 := G.out.2.2.2.trans (hb2.mono G.out.2.2.2.size)
  have T' := hidd (g2.there 138 138 (by rw [MS.out]; omega))
  have i2 := g2.cellsSame (ccells m l cs) 138
  rw [E2.out] at i2
  have i1 := g1.cellsOther (g := w.heap.size + 1 + 1) (by omega) (ccells m l cs) 138
  have i3 := below_setCells (b := w.heap.size + 1 + 1) (by omega) (ccells m l cs) 138 g3
  have G2 := hidd (And.intro i1 (And.intro i2 (And.intro (i1.rowSame C) (below_setRow (g := w.heap.size + 1) i3 (by omega) C))))
  clear g1 g2 g3 i1 i2 i3 hb2 G T
  go_wp2_with (first
    | (refine wpList_store_mid rfl 24 (.tmp 11) (.tmp 10) rfl (w.heap.size + 1 + 1) 138 _ rfl rfl (by rw [L2.out]; exact T'.out) T2.out O2.out ?_)
    | (refine wpList_load_row rfl 30 (.tmp 3) rfl (w.heap.size + 1 + 1) rfl 30 _ (0,0) _ G2.out.2.1 Try.underlying30 rfl SD.out ?_)
    | (refine wpList_store_row rfl 30 (.tmp 2) (.tmp 12) rfl (w.heap.size + 1) _ rfl rfl 30 _ G2.out.1 SD.out (by rw [ZS.out, FS.out]) OD.out ?_))
  refine bodyPost_ret (results_cell_row rfl _ _ (w.heap.size + 1) 30 _ (0,0) _ rfl G2.out.2.2.1 Try.underlying30 rfl SD.out) rfl ⟨rfl, G2.out.2.2.2⟩
section
variable {H : Type} {enc : TypeId × Value → H} {w : World} {base : Nat} {spare : Nat → Bool} {held : Bool}
/-- The cells of a colouring that can be read. -/
theorem trod_col {fuel : Nat} {cs : List Value} {x : DataW H × List MemPlace} (h : DataW.trod enc Try.prog w base spare held fuel 34 cs = some x) (hlen : cs.length = 138) :
    ∃ n k bs, cs = ccells n k bs ∧ Bys bs ∧ (Lit.int .i64 n).wf = true ∧ (Lit.int .i64 k).wf = true := by
  obtain ⟨xs, m, rfl, hx, hl, hxl, hel⟩ := DataW.trod_struct Try.underlying34 h
  have hxl3 : xs.length = 3 := hxl
  have h0 : DataW.trod enc Try.prog w base spare held m 2 ((cs.drop 0).take (Try.prog.cellsOf 2)) = xs[0]? := hel 0 _ rfl
  have h1 : DataW.trod enc Try.prog w base spare held m 2 ((cs.drop 1).take (Try.prog.cellsOf 2)) = xs[1]? := hel 1 _ rfl
  have h2 : DataW.trod enc Try.prog w base spare held m 22 ((cs.drop 2).take (Try.prog.cellsOf 22)) = xs[2]? := hel 2 _ rfl
  rw [cells2] at h0 h1
  rw [cells22] at h2
  rw [List.getElem?_eq_getElem (by omega)] at h0 h1 h2
  obtain ⟨n, e0, _, wn⟩ := DataW.trod_int Try.underlying2 h0
  obtain ⟨k, e1, _, wk⟩ := DataW.trod_int Try.underlying2 h1
  obtain ⟨bs, e2, hb⟩ := open_bytes h2
  refine ⟨n, k, bs, ?_, hb, wn, wk⟩
  rcases cs with _ | ⟨a, _ | ⟨b, r⟩⟩
  · cases hlen
  · cases hlen
  · have hr : r.length = 136 := by rw [List.length_cons, List.length_cons] at hlen; omega
    simp only [List.drop_zero, List.drop_succ_cons, List.take_succ_cons, List.take_zero, List.cons.injEq, and_true] at e0 e1 e2
    rw [List.take_of_length_le (by omega)] at e2
    rw [e0, e1, e2]; rfl
theorem cells36 : Try.prog.cellsOf 36 = 276 := by kernel_rfl
theorem cells34 : Try.prog.cellsOf 34 = 138 := by kernel_rfl
/-- A desk that can be read. -/
theorem open_desk {v : Value} {d : DataW H} {ps : List MemPlace} {r : Reach} {b : Nat} (hv : Value.okWide Try.prog w r b 36 v) (h : DataW.Trod enc Try.prog w base spare held 36 v d ps) :
    ∃ n k bs m l cs, v = .agg (dcl n k bs m l cs).toArray ∧ Bys bs ∧ Bys cs := by
  unfold Value.okWide at hv
  rw [Try.underlying36] at hv
  obtain ⟨cs, rfl, hs, _⟩ := hv
  obtain ⟨fuel, h⟩ := h
  obtain ⟨xs, q, rfl, hx, hl, hxl, hel⟩ := DataW.trod_struct Try.underlying36 h
  have hxl3 : xs.length = 2 := hxl
  have h0 : DataW.trod enc Try.prog w base spare held q 34 ((cs.toList.drop 0).take (Try.prog.cellsOf 34)) = xs[0]? := hel 0 _ rfl
  have h1 : DataW.trod enc Try.prog w base spare held q 34 ((cs.toList.drop 138).take (Try.prog.cellsOf 34)) = xs[1]? := hel 1 _ rfl
  rw [cells34] at h0 h1
  rw [List.getElem?_eq_getElem (by omega)] at h0 h1
  have hlen : cs.toList.length = 276 := by rw [cells36] at hs; simpa using hs
  obtain ⟨n, k, bs, e0, hb, _⟩ := trod_col h0 (by simp only [List.length_take, List.length_drop, hlen]; omega)
  obtain ⟨m, l, cs2, e1, hc, _⟩ := trod_col h1 (by simp only [List.length_take, List.length_drop, hlen]; omega)
  refine ⟨n, k, bs, m, l, cs2, ?_, hb, hc⟩
  have : cs.toList = dcl n k bs m l cs2 := by
    rw [List.drop_zero] at e0
    rw [List.take_of_length_le (by simp only [List.length_drop, hlen]; omega)] at e1
    unfold dcl
    rw [← e0, ← e1, List.take_append_drop]
  rw [← this]
end
end Go.Proofs.Ytoiamgmlehmomaa
