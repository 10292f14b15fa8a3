/- enter: the door to sizedOf. -/
import Derived.Test.YtckffliiidgilaaDoorSzd
import Derived.Deep.Cut
namespace Go.Proofs.YtckffliiidgilaaDoor
set_option linter.unusedVariables false
set_option linter.unusedSimpArgs false
open Go Go.RowKit Go.Extern.Stop Go.Stop Go.Extern
set_option maxRecDepth 100000 in
theorem catch_idle (p : Addr) (w : World) :
    CallsD Tryd.prog 89 #[.pointer (some p)] .returning w fun e u' w' => e = .returned (.tuple #[]) ∧ u' = .returning ∧ w' = w := by
  refine callsD_of_wpS Tryd.func89 rfl fun c₀ cs hu => ?_
  apply wpS_seq
  apply wpS_region
  simp [wpOpsS, go_sem, recoverD, hu, Tryd.ntmps89, Exit.thenS, asNil]
  refine wpS_of_wp ?_
  go_wp2
  cases c₀
  simp_all [bodyPostS, results, Tryd.results89]
theorem tm89 (p a b c d e f g : Value) : #[p] ++ (((((((Array.replicate 11 undef).setIfInBounds 3 a).setIfInBounds 4 b).setIfInBounds 2 c).setIfInBounds 5 d).setIfInBounds 6 e).setIfInBounds 0 f).setIfInBounds 1 g = #[p, f, g, c, a, b, d, e, undef, undef, undef, undef] := by apply Array.ext'; simp [List.replicate, List.set]
set_option maxRecDepth 100000 in
set_option maxHeartbeats 400000 in
theorem catch_panicking (b : Nat) (a : Addr) (x : Int) (w : World) (hE : Er w a) (hc : w.cell? ⟨b, 0, none⟩ = some (.int .i64 x)) (hz : w.frozen? ⟨b, 0, none⟩ = false) :
    CallsD Tryd.prog 89 #[.pointer (some ⟨b, 0, none⟩)] (.panicking (pan a)) w fun e u' w' =>
      e = .returned (.tuple #[]) ∧ u' = .panicking [{ v := .iface 147 (.pointer (some a)), recovered := true }] ∧ w' = w.setCell ⟨b, 0, none⟩ (.int .i64 2) := by
  refine callsD_of_wpS Tryd.func89 rfl fun c₀ cs hu => ?_
  unfold pan at hu
  have hA := asE
  have hE2 : w.cell? ⟨0, 0, none⟩ = some (.iface 147 (.pointer (some a))) := hE
  apply wpS_seq
  apply wpS_region
  simp [wpOpsS, go_sem, recoverD, hu, Tryd.ntmps89, Exit.thenS, hA]
  rw [tm89]
  refine wpS_of_wp ?_
  go_wp2_with fail
  refine (is_same a _).mono ?_
  rintro e w1 ⟨rfl, rfl⟩
  go_wp2
  cases c₀
  simp_all [bodyPostS, results, Tryd.results89]
set_option maxRecDepth 100000 in
set_option maxHeartbeats 2000000 in
theorem sized91_ok (n k : Int) (bs : List Nat) (hb : Bys bs) (zs : List Int) (a : Option Addr) (cap : Nat) (w : World) (hs : SlI w a zs) (hl : zs.length ≤ 1048576) (ho : szOk k zs = true) :
    Calls Tryd.prog 91 #[.agg (ccells n k bs).toArray, .slice a zs.length cap] w fun e w' => e = .returned (.agg (scl n k bs a zs.length cap).toArray) ∧ Below w.heap.size w w' := by
  have Hz := zero56
  have HS := hidd (size_c26 n k hb)
  have HC1 := hidd (show (ccells n k bs).toArray[1]? = some (.int .i64 k) from rfl)
  have HZS := hidd (fun W h => sizes30 k zs a cap W h hl)
  have HOK := hidd ho
  have HSL := hidd hs
  have HB := hidd hb
  have HS5 := hidd (size_s56 (n := n) (k := k) hb a zs.length cap)
  have HO5 := hidd (show (scl 0 0 zbl none 0 0).toArray.size = (scl n k bs a zs.length cap).toArray.size by simp [scl_len zbl_bys, scl_len hb])
  have HA5 := hidd (scl_one (n := n) (k := k) (bs := bs) (a := a) (l := zs.length) (c := cap))
  obtain ⟨W2, hW2⟩ : ∃ W2, W2 = (w.alloc (.cells (ccells n k bs).toArray 28)).alloc (.cells (scl 0 0 zbl none 0 0).toArray 56) := ⟨_, rfl⟩
  have g1 : Blk W2 w.heap.size (ccells n k bs).toArray 28 := by rw [hW2]; exact (Blk.new _ _ _ _ rfl).alloc _
  have g2 : Blk W2 (w.heap.size + 1) (scl 0 0 zbl none 0 0).toArray 56 := by rw [hW2]; exact Blk.new _ _ _ _ (by simp)
  have g3 : Below w.heap.size w W2 := by rw [hW2]; exact ((Below.refl _ _).alloc (Nat.le_refl _) _).alloc (by simp) _
  have g4 := g1.cell HC1.out
  have G := hidd (And.intro g1 (And.intro g2 (And.intro g3 (And.intro (g2.rowSame (scl n k bs a zs.length cap).toArray) (below_setRow g3 (show w.heap.size ≤ w.heap.size + 1 by omega) (scl n k bs a zs.length cap).toArray)))))
  clear g1 g2 g3 hs hb ho
  go_enter Tryd.func91, Tryd.ntmps91
  go_upto_region 1 with fail
  rw [← hW2]
  clear hW2
  go_wp2_with fail
  refine (HZS.out _ (HSL.out.below G.out.2.2.1 (Nat.le_refl _))).mono ?_
  rintro e w1 ⟨rfl, rfl⟩
  rw [HOK.out]
  go_wp2_with (first
    | (refine wpList_load_row rfl 28 (.tmp 2) rfl w.heap.size rfl 28 _ (0,0) _ G.out.1 Tryd.underlying28 rfl HS.out ?_)
    | (refine wpList_build56 HB.out rfl (.tmp 11) (.tmp 12) rfl rfl rfl ?_)
    | (refine wpList_store_row rfl 56 (.tmp 4) (.tmp 13) rfl (w.heap.size + 1) _ rfl rfl 56 _ G.out.2.1 HS5.out HO5.out HA5.out ?_))
  exact bodyPost_ret (results_cell_row rfl _ _ (w.heap.size + 1) 56 _ (0,0) _ rfl G.out.2.2.2.1 Tryd.underlying56 rfl HS5.out) rfl ⟨rfl, G.out.2.2.2.2⟩
set_option maxRecDepth 100000 in
set_option maxHeartbeats 2000000 in
theorem sized91_bad (n k : Int) (bs : List Nat) (hb : Bys bs) (zs : List Int) (a : Option Addr) (cap : Nat) (e0 : Addr) (w : World) (hs : SlI w a zs) (hl : zs.length ≤ 1048576) (ho : szOk k zs = false) (hE : Er w e0) :
    Calls Tryd.prog 91 #[.agg (ccells n k bs).toArray, .slice a zs.length cap] w fun e w' => e = .panicked (pan e0) ∧ Below w.heap.size w w' := by
  have Hz := zero56
  have HS := hidd (size_c26 n k hb)
  have HC1 := hidd (show (ccells n k bs).toArray[1]? = some (.int .i64 k) from rfl)
  have HZS := hidd (fun W h => sizes30 k zs a cap W h hl)
  have HOK := hidd ho
  have HSL := hidd hs
  obtain ⟨W2, hW2⟩ : ∃ W2, W2 = (w.alloc (.cells (ccells n k bs).toArray 28)).alloc (.cells (scl 0 0 zbl none 0 0).toArray 56) := ⟨_, rfl⟩
  have g1 : Blk W2 w.heap.size (ccells n k bs).toArray 28 := by rw [hW2]; exact (Blk.new _ _ _ _ rfl).alloc _
  have g3 : Below w.heap.size w W2 := by rw [hW2]; exact ((Below.refl _ _).alloc (Nat.le_refl _) _).alloc (by simp) _
  have g4 := g1.cell HC1.out
  have hE2 : W2.cell? ⟨0, 0, none⟩ = some (.iface 147 (.pointer (some e0))) := hE.below g3 hE.lt
  have G := hidd g3
  clear g1 g3 hs hb ho hE
  go_enter Tryd.func91, Tryd.ntmps91
  go_upto_region 1 with fail
  rw [← hW2]
  clear hW2
  go_wp2_with fail
  refine (HZS.out _ (HSL.out.below G.out (Nat.le_refl _))).mono ?_
  rintro e w1 ⟨rfl, rfl⟩
  rw [HOK.out]
  go_wp2_with fail
  exact ⟨rfl, ⟨rfl, G.out⟩⟩
end Go.Proofs.YtckffliiidgilaaDoor
