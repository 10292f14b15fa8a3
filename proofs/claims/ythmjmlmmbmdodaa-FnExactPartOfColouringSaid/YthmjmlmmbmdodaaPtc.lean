/- The colouring of a part: the program and the model. -/
import Derived.Test.YthmjmlmmbmdodaaPt
namespace Go.Proofs.Ythmjmlmmbmdodaa
set_option linter.unusedVariables false
set_option linter.unusedSimpArgs false
open Go Go.RowKit Go.Shelf
/-- The colour of the edge of lo and hi in the colouring of a part. -/
def prR (zs : List Int) (lo hi : Nat) : Int := zs.getD (hi - lo - 1) 0
set_option maxRecDepth 100000 in
set_option maxHeartbeats 1000000 in
theorem rule63 (zs : List Int) (a : Option Addr) (cap b0 : Nat) (W : World) (hl : zs.length ≤ 16) (hC : Blk W b0 #[.slice a zs.length cap] 22) (hs : SlI W a zs) (lo hi : Nat) (h1 : lo < hi) (h3 : hi < zs.length + 1) :
    Calls Try.prog 63 #[.int .i64 (lo : Int), .int .i64 (hi : Int), .pointer (some ⟨b0, 0, none⟩)] W fun e W' => e = .returned (.int .i64 (prR zs lo hi)) ∧ Below W.heap.size W W' := by
  have cB := hC.cell (j := 0) (show _ = some (Value.slice a zs.length cap) from rfl)
  rcases hs with hs | ⟨b, off, rfl, hc⟩
  · subst hs; simp at h3; omega
  · unfold prR
    obtain ⟨F, hF⟩ : ∃ F, F = hi - lo - 1 := ⟨_, rfl⟩
    have hcF := hc F (by omega)
    obtain ⟨v, hv⟩ : ∃ v, v = zs.getD F 0 := ⟨_, rfl⟩
    rw [← hF, ← hv]
    rw [← hv] at hcF
    have hx : (hi : Int) - (lo : Int) - 1 = (F : Int) := by omega
    have hFl : (F : Int) < (zs.length : Int) := by omega
    have l0 : (0 : Int) ≤ (lo : Int) := by omega
    have l1 : (lo : Int) ≤ 16 := by omega
    have l2 : (0 : Int) ≤ (hi : Int) := by omega
    have l3 : (hi : Int) ≤ 16 := by omega
    clear hF hv hc hC h1 h3
    go_enter Try.func63, Try.ntmps63
    go_wp2_with fail
    go_ret
    exact ⟨rfl, Below.refl _ _⟩
theorem ruleOf63 (zs : List Int) (a : Option Addr) (cap b0 N : Nat) (w : World) (hl : zs.length ≤ 16) (hN : N = zs.length + 1) (hC : Blk w b0 #[.slice a zs.length cap] 22) (hs : SlI w a zs) :
    Rule N 63 #[.pointer (some ⟨b0, 0, none⟩)] (prR zs) w := by
  intro x W hbl
  obtain ⟨hx1, hx2, hx3⟩ := x.2
  exact rule63 zs a cap b0 W hl (hC.below hbl hC.lt) (hs.below hbl (Nat.le_refl _)) x.1.2.1 x.1.2.2 hx2 (by omega)
set_option maxRecDepth 100000 in
set_option maxHeartbeats 2000000 in
theorem pcol44 (zs : List Int) (a : Option Addr) (cap : Nat) (N : Nat) (k : Int) (w : World) (hs : SlI w a zs) (hl : zs.length ≤ 16) (hN : N = zs.length + 1) (hr : ∀ j, 0 ≤ zs.getD j 0 ∧ zs.getD j 0 < 256) :
    Calls Try.prog 44 #[.int .i64 k, .slice a zs.length cap] w fun e w' => e = .returned (.agg (ccells (N : Int) k (paintB N (prR zs))).toArray) ∧ Below w.heap.size w w' := by
  have Hz := zero26
  have hmf : ∀ (fn : Fn) (first cap : Array Value) (w : World), (Instr.makeFunc fn first cap).run Try.prog w = .ok (.func fn first cap) w := fun _ _ _ _ => rfl
  have HRB := hidd (show ∀ lo hi, 0 ≤ prR zs lo hi ∧ prR zs lo hi < 256 from fun lo hi => hr _)
  have HPB := hidd (paintB_bys (N := N) HRB.out)
  have HPS := hidd (size_c26 (N : Int) k HPB.out)
  have HPO := hidd (size_cc 0 0 (N : Int) k zbl_bys HPB.out)
  have HPA := hidd (ccells_one (N : Int) k (paintB N (prR zs)))
  have HRO := hidd (fun b0 W h1 h2 => ruleOf63 zs a cap b0 N W hl hN h1 h2)
  have HSL := hidd hs
  have hNI : (zs.length : Int) + 1 = (N : Int) := by omega
  have n1 : 1 ≤ N := by omega
  have n2 : N ≤ 17 := by omega
  have hl16 : (zs.length : Int) ≤ 16 := by omega
  have hW : ∀ W, W = ((w.alloc (.cells #[.slice a zs.length cap] 22)).alloc (.cells (ccells 0 0 zbl).toArray 35)) →
      Blk W w.heap.size #[.slice a zs.length cap] 22 ∧ Blk W (w.heap.size + 1) (ccells 0 0 zbl).toArray 35 ∧ Below w.heap.size w W := by
    rintro W rfl
    exact ⟨(Blk.new _ _ _ _ (by simp)).alloc _, Blk.new _ _ _ _ (by simp), ((Below.refl _ _).alloc (Nat.le_refl _) _).alloc (by simp) _⟩
  have HW := hidd (hW _ rfl)
  clear hr hs hN hW
  go_enter Try.func44, Try.ntmps44
  go_wp2_with fail
  refine (paint52 N k 63 _ (prR zs) _ n1 n2 (fun x => HRB.out _ _) (enters_of Try.func63 (by kernel_rfl) rfl) (HRO.out _ _ HW.out.1 (HSL.out.below HW.out.2.2 (Nat.le_refl _)))).mono ?_
  rintro e w1 ⟨rfl, hb1⟩
  have z1 := HW.out.2.1.below hb1 HW.out.2.1.lt
  have b1 := HW.out.2.2.trans (hb1.mono HW.out.2.2.size)
  have R := hidd (And.intro z1 (And.intro (z1.rowSame (ccells (N : Int) k (paintB N (prR zs))).toArray) (below_setRow b1 (g := w.heap.size + 1) (by omega) (ccells (N : Int) k (paintB N (prR zs))).toArray)))
  clear hb1 z1 b1
  go_wp2_with (refine wpList_store_row rfl 35 (.tmp 4) (.tmp 10) rfl (w.heap.size + 1) _ rfl rfl 35 _ R.out.1 HPS.out HPO.out HPA.out ?_)
  refine bodyPost_ret (results_cell_row rfl _ _ (w.heap.size + 1) 35 _ (0,0) _ rfl R.out.2.1 Try.underlying35 rfl HPS.out) rfl ⟨rfl, R.out.2.2⟩
end Go.Proofs.Ythmjmlmmbmdodaa
