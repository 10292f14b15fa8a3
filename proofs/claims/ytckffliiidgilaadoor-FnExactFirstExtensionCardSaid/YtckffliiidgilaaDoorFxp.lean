/- FirstExtension: the program's walk. -/
import Derived.Test.YtckffliiidgilaaDoorFxi
namespace Go.Proofs.YtckffliiidgilaaDoor
set_option linter.unusedVariables false
set_option linter.unusedSimpArgs false
open Go Go.RowKit Go.Shelf Go.Extern.Stop Go.Stop Go.Extern
attribute [local go_sem] Oper.semAt_some
/-- The two results in their cells, what was there before, and the extensions' own memory. -/
def RelGx (w : World) (v : Value) (c : Int) (W : World) : Prop := Blk W (w.heap.size + 1) #[v] 25 ∧ Blk W (w.heap.size + 1 + 1) #[.int .i64 c] 2 ∧ Below w.heap.size w W
theorem RelGx.put {w W : World} {v : Value} {c : Int} (h : RelGx w v c W) (v' : Value) (c' : Int) : RelGx w v' c' ((W.setCell ⟨w.heap.size + 1, 0, none⟩ v').setCell ⟨w.heap.size + 1 + 1, 0, none⟩ (.int .i64 c')) := by
  have h1 := (h.1.same 0 v').other ⟨w.heap.size + 1 + 1, 0, none⟩ (.int .i64 c') (by show w.heap.size + 1 ≠ w.heap.size + 1 + 1; omega)
  have h2 := (h.2.1.other ⟨w.heap.size + 1, 0, none⟩ v' (by show w.heap.size + 1 + 1 ≠ w.heap.size + 1; omega)).same 0 (.int .i64 c')
  exact ⟨h1, h2, (h.2.2.setCell (by show w.heap.size ≤ w.heap.size + 1; omega) _).setCell (by show w.heap.size ≤ w.heap.size + 1 + 1; omega) _⟩
set_option maxRecDepth 100000 in
set_option maxHeartbeats 4000000 in
theorem impl21_bad (n k : Int) (bs : List Nat) (hb : Bys bs) (zs : List Int) (a : Option Addr) (cap : Nat) (e0 : Addr) (w : World) (hs : SlI w a zs) (hl : zs.length ≤ 1048576) (hE : Er w e0) (h0 : eaC 12 n k bs zs ≠ 0) :
    Calls Tryd.prog 21 #[.agg (ccells n k bs).toArray, .slice a zs.length cap] w fun e w' => LOut w [] (eaC 12 n k bs zs) e w' := by
  have Hz := zero56
  have HS := hidd (size_c26 n k hb)
  have HSL := hidd hs
  have HE := hidd hE
  have HEN := hidd (fun W h hE => ea47 12 n k bs hb zs a cap e0 W h hl hE)
  have HG := hidd (And.intro (Blk.new w (ccells n k bs).toArray 28 _ rfl) ((Below.refl w.heap.size w).alloc (Nat.le_refl _) (.cells (ccells n k bs).toArray 28)))
  have HG2 := hidd (show Blk (((w.alloc (.cells (ccells n k bs).toArray 28)).alloc (.cells #[.slice none 0 0] 25)).alloc (.cells #[.int .i64 0] 2)) w.heap.size (ccells n k bs).toArray 28 ∧ RelGx w (.slice none 0 0) 0 (((w.alloc (.cells (ccells n k bs).toArray 28)).alloc (.cells #[.slice none 0 0] 25)).alloc (.cells #[.int .i64 0] 2)) from
    ⟨(HG.out.1.alloc _).alloc _, (Blk.new _ _ _ _ (by simp)).alloc _, Blk.new _ _ _ _ (by simp), (HG.out.2.alloc (by simp) _).alloc (by simp; omega) _⟩)
  obtain ⟨W0, hW0⟩ : ∃ W0, W0 = ((w.alloc (.cells (ccells n k bs).toArray 28)).alloc (.cells #[.slice none 0 0] 25)).alloc (.cells #[.int .i64 0] 2) := ⟨_, rfl⟩
  rw [← hW0] at HG2
  obtain ⟨D, hD⟩ : ∃ D, D = (eaS 12 n k bs zs a cap).toArray := ⟨_, rfl⟩
  obtain ⟨cd, hcd⟩ : ∃ cd, cd = eaC 12 n k bs zs := ⟨_, rfl⟩
  have hDs : (Tryd.prog.info? 56).map (·.size) = some D.size ∧ (scl 0 0 zbl none 0 0).toArray.size = D.size ∧ D.all (·.oneCell') = true := by
    rw [hD]; unfold eaS
    split
    · exact ⟨size_s56 hb _ _ _, by simp [scl_len zbl_bys, scl_len hb], scl_one⟩
    · exact ⟨size_s56 zbl_bys _ _ _, rfl, scl_one⟩
  have HD := hidd hDs
  rw [← hD, ← hcd] at HEN
  rw [← hcd] at h0 ⊢
  have hne : (cd != 0) = true := by rw [bne_iff_ne]; exact h0
  have HJ := hidd (fun (W1 : World) (hb1 : Below W0.heap.size W0 W1) =>
    (show RelGx w (.slice none 0 0) 0 ((W1.alloc (.cells (scl 0 0 zbl none 0 0).toArray 56)).setRow W1.heap.size D) from by
      have k1 := HG2.out.2.1.below hb1 HG2.out.2.1.lt
      have k2 := HG2.out.2.2.1.below hb1 HG2.out.2.2.1.lt
      have h1 := k1.lt
      have h2 := k2.lt
      have k3 := HG2.out.2.2.2.trans (hb1.mono HG2.out.2.2.2.size)
      exact ⟨(k1.alloc _).rowOther _ _ (by omega), (k2.alloc _).rowOther _ _ (by omega), below_setRow (k3.alloc (by omega) _) (by omega) _⟩))
  clear hDs hs hE hD hcd h0 HG
  go_enter Tryd.func21, Tryd.ntmps21
  go_upto_region 1 with fail
  rw [← hW0]
  clear hW0
  go_wp2_with (refine wpList_load_row rfl 28 (.tmp 2) rfl w.heap.size rfl 28 _ (0,0) _ HG2.out.1 Tryd.underlying28 rfl HS.out ?_)
  refine (HEN.out _ (HSL.out.below HG2.out.2.2.2 (Nat.le_refl _)) (HE.out.below HG2.out.2.2.2 HE.out.lt)).mono ?_
  rintro e w1 ⟨rfl, hb1⟩
  have J := hidd (HJ.out w1 hb1)
  clear hb1
  obtain ⟨W4, hW4⟩ : ∃ W4, W4 = (w1.alloc (.cells (scl 0 0 zbl none 0 0).toArray 56)).setRow w1.heap.size D := ⟨_, rfl⟩
  rw [← hW4] at J
  go_upto_region 2 with (refine wpList_store_row rfl 56 (.tmp 6) (.tmp 13) rfl w1.heap.size _ rfl rfl 56 _ (Blk.new _ _ _ _ rfl) HD.out.1 HD.out.2.1 HD.out.2.2 ?_)
  rw [← hW4]
  clear hW4
  have c4 := J.out.1.cell (j := 0) (show _ = some (Value.slice none 0 0) from rfl)
  have f4 := J.out.1.fro 0
  have c5 := J.out.2.1.cell (j := 0) (show _ = some (Value.int .i64 0) from rfl)
  have f5 := J.out.2.1.fro 0
  go_wp2_with fail
  have K := hidd (J.out.put (.slice none 0 0) cd)
  have e4 := K.out.1.cell (j := 0) (show _ = some (Value.slice none 0 0) from rfl)
  have e5 := K.out.2.1.cell (j := 0) (show _ = some (Value.int .i64 cd) from rfl)
  refine bodyPost_ret (v := .tuple #[.slice none 0 0, .int .i64 cd]) (by simp [results, Tryd.results21, go_sem, e4, e5]) rfl ?_
  exact lout_nil rfl K.out.2.2
end Go.Proofs.YtckffliiidgilaaDoor
