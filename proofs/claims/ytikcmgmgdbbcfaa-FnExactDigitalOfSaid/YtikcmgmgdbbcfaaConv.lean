import Derived.Test.YtikcmgmgdbbcfaaTypes
namespace Go.Proofs.Ytikcmgmgdbbcfaa
open Go Go.RowKit
def Rel46 (bs : List Nat) (w : World) (k : Nat) (C : Array Value) (wr : World) : Prop := Blk wr w.heap.size (bcells bs).toArray 23 ∧ Blk wr (w.heap.size + 1) (bcells zbl).toArray 23 ∧ Blk wr (w.heap.size + 1 + 1) C 23 ∧ Cop bs k C ∧ Below w.heap.size w wr
set_option maxRecDepth 100000 in
set_option maxHeartbeats 400000 in
theorem toByte_any (bs : List Nat) (w : World) (hb : Bys bs) :
    Calls Try.prog 55 #[.agg (bcells bs).toArray] w fun e w' => e = .returned (.agg (bcells bs).toArray) ∧ Below w.heap.size w w' := by
  have Hz := zero22
  go_enter Try.func55, Try.ntmps55
  go_wp2
  go_loopw [4] (fun i wr => ∃ k : Nat, k ≤ 136 ∧ i = .int .i64 k ∧ ∃ C, Rel46 bs w k C wr)
    (fun i _ => 136 - (intOf i).toNat)
  case atStart =>
    refine ⟨0, by omega, rfl, (bcells zbl).toArray, ?_, ?_, ?_, ⟨by simp [bcells_len, zbl_len], fun j h => absurd h (by omega)⟩, ?_⟩
    · exact ((Blk.new _ _ _ _ rfl).alloc _).alloc _
    · exact (Blk.new _ _ _ _ (by simp)).alloc _
    · exact Blk.new _ _ _ _ (by simp)
    · exact (((Below.refl _ _).alloc (Nat.le_refl _) _).alloc (by simp) _).alloc (by simp; omega) _
  case round =>
    obtain ⟨k, hk, rfl, C, HR⟩ := hrel
    by_cases hlt : k < 136
    · have hg := hb.get hlt
      have hc0 : wr.cell? ⟨w.heap.size, k, none⟩ = some (.int .u8 ((bs.getD k 0 : Nat) : Int)) := HR.1.cell (by simpa using hg)
      obtain ⟨old, hc2⟩ : ∃ old, wr.cell? ⟨w.heap.size + 1 + 1, k, none⟩ = some old := ⟨_, HR.2.2.1.cell (Array.getElem?_eq_getElem (by rw [HR.2.2.2.1.1]; exact hlt))⟩
      have hf2 := HR.2.2.1.fro k
      obtain ⟨x, hx⟩ : ∃ x, x = bs.getD k 0 := ⟨_, rfl⟩
      rw [← hx] at hc0 hg
      have HG := hidd hg
      have HRR := hidd HR
      clear hx hg HR
      go_wp2
      go_roundw
      case rel =>
        refine ⟨k + 1, by omega, by go_num, _, HRR.out.1.other _ _ (by show _ ≠ _ + 1 + 1; omega), HRR.out.2.1.other _ _ (by show _ ≠ _ + 1 + 1; omega), HRR.out.2.2.1.same _ _, HRR.out.2.2.2.1.step hlt _ HG.out, HRR.out.2.2.2.2.setCell (by simp; omega) _⟩
      case measure => simp [intOf]; omega
    · have hk6 : k = 136 := by omega
      subst hk6
      have hC := Cop.done hb.len HR.2.2.2.1
      subst hC
      have HRR := hidd HR
      have h2 := HR.2.1.rowSame (bcells bs).toArray
      have hbel := below_setRow (g := w.heap.size + 1) HR.2.2.2.2 (by omega) (bcells bs).toArray
      have HH := hidd (And.intro h2 hbel)
      clear HR h2 hbel
      have HS := hidd (show (Try.prog.info? 23).map (·.size) = some (bcells bs).toArray.size by rw [size22]; simp [bcells_len, hb.len])
      go_wp2_with (first
        | (refine wpList_load_row rfl 23 (.tmp 3) rfl (w.heap.size + 1 + 1) rfl 23 _ (0,0) _ HRR.out.2.2.1 Try.underlying23 rfl HS.out ?_)
        | (refine wpList_store_row rfl 23 (.tmp 2) (.tmp 14) rfl (w.heap.size + 1) _ rfl rfl 23 _ HRR.out.2.1 HS.out (by simp [bcells_len, hb.len, zbl_len]) (bcells_one bs) ?_))
      refine bodyPost_ret (results_cell_row rfl _ _ (w.heap.size + 1) 23 _ (0,0) _ rfl HH.out.1 Try.underlying23 rfl HS.out) rfl ⟨rfl, HH.out.2⟩
set_option maxRecDepth 100000 in
set_option maxHeartbeats 400000 in
theorem toCol_any (n k : Int) (bs : List Nat) (w : World) (hb : Bys bs) :
    Calls Try.prog 22 #[.agg (ccells n k bs).toArray] w fun e w' => e = .returned (.agg (ccells n k bs).toArray) ∧ Below w.heap.size w w' := by
  have Hz := zero26
  obtain ⟨C, hC⟩ : ∃ C, C = (ccells n k bs).toArray := ⟨_, rfl⟩
  have hC0 : C[0]? = some (.int .i64 n) := by rw [hC]; rfl
  have hC1 : C[1]? = some (.int .i64 k) := by rw [hC]; rfl
  obtain ⟨Z, hZ⟩ : ∃ Z, Z = (ccells 0 0 zbl).toArray := ⟨_, rfl⟩
  have hZ0 : Z[0]? = some (.int .i64 0) := by rw [hZ]; rfl
  have hZ1 : Z[1]? = some (.int .i64 0) := by rw [hZ]; rfl
  rw [← hZ] at Hz
  rw [← hC]
  have HC := hidd hC
  have HZ := hidd hZ
  clear hC hZ
  have HR0 := hidd (show ∀ j v, (bcells bs)[j]? = some v → C[2 + j]? = some v by
    rw [HC.out]; intro j v hv; rw [show 2 + j = j + 1 + 1 by omega]; simpa [ccells] using hv)
  have HS := hidd (show (Try.prog.info? 23).map (·.size) = some (bcells bs).length by rw [size22]; simp [bcells_len, hb.len])
  go_enter Try.func22, Try.ntmps22
  go_wp2_with (refine wpList_load_mid rfl 23 (.tmp 10) rfl w.heap.size 2 rfl (bcells bs) _ ((((Blk.new w C 32 _ rfl).alloc _).alloc _).range 2 _ HR0.out) Try.underlying23 rfl HS.out ?_)
  refine (toByte_any bs _ hb).mono ?_
  rintro e w1 ⟨rfl, hb1⟩
  have g1 : Blk w1 (w.heap.size + 1) Z 25 := ((Blk.new _ _ _ _ (by simp)).alloc _).below hb1 (by simp)
  have g2 := (Blk.new ((w.alloc (Obj.cells C 32)).alloc (Obj.cells Z 25)) ((Z.setIfInBounds 0 (Value.int IntKind.i64 n)).setIfInBounds 1 (Value.int IntKind.i64 k)) 25 (w.heap.size + 1 + 1) (by simp)).below hb1 (by simp)
  rw [HZ.out, ccells_set0, ccells_set1] at g2
  have g3 : Below w.heap.size w w1 := ((((Below.refl _ _).alloc (Nat.le_refl _) _).alloc (by simp) _).alloc (by simp; omega) _).trans (hb1.mono (by simp; omega))
  have g4 := g2.cellsSame (bcells bs) 2
  rw [ccells_edges _ _ _ _ (by rw [zbl_len, hb.len]), ← HC.out] at g4
  have g5 := g1.cellsOther (g := w.heap.size + 1 + 1) (by omega) (bcells bs) 2
  have g6 := g5.rowSame C
  have g7 := below_setRow (below_setCells (b := w.heap.size + 1 + 1) (by omega) (bcells bs) 2 g3) (g := w.heap.size + 1) (by omega) C
  have HT := hidd (g2.there 2 (bcells bs).toArray.size (by simp [ccells_len, bcells_len, zbl_len, hb.len]))
  have HSS := hidd (show (Try.prog.info? 23).map (·.size) = some (bcells bs).toArray.size by rw [size22]; simp [bcells_len, hb.len])
  have HC6 := hidd (show (Try.prog.info? 25).map (·.size) = some C.size by rw [size26, HC.out]; simp [ccells_len, hb.len])
  have HO := hidd (show Z.size = C.size by rw [HC.out, HZ.out]; simp [ccells_len, hb.len, zbl_len])
  have HC1 := hidd (show C.all (·.oneCell') = true by rw [HC.out]; exact ccells_one n k bs)
  have G := hidd (And.intro g4 (And.intro g5 (And.intro g6 g7)))
  clear g1 g2 g3 g4 g5 g6 g7 hb1
  go_wp2_with (first
    | (refine wpList_store_mid rfl 23 (.tmp 13) (.tmp 12) rfl (w.heap.size + 1 + 1) 2 _ rfl rfl HT.out HSS.out (bcells_one bs) ?_)
    | (refine wpList_load_row rfl 25 (.tmp 3) rfl (w.heap.size + 1 + 1) rfl 25 _ (0,0) _ G.out.1 Try.underlying25 rfl HC6.out ?_)
    | (refine wpList_store_row rfl 25 (.tmp 2) (.tmp 14) rfl (w.heap.size + 1) _ rfl rfl 25 _ G.out.2.1 HC6.out HO.out HC1.out ?_))
  refine bodyPost_ret (results_cell_row rfl _ _ (w.heap.size + 1) 25 _ (0,0) _ rfl G.out.2.2.1 Try.underlying25 rfl HC6.out) rfl ⟨rfl, G.out.2.2.2⟩
end Go.Proofs.Ytikcmgmgdbbcfaa
