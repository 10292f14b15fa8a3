/- l01Turned's walk. -/
import Derived.Test.YtpjegmmichjlbaaTurn
namespace Go.Proofs.Ytpjegmmichjlbaa
set_option linter.unusedVariables false
set_option linter.unusedSimpArgs false
open Go Go.RowKit
def RelTu (n k : Int) (bs : List Nat) (L : List Int) (w : World) (j : Nat) (wr : World) : Prop :=
  Blk wr w.heap.size (ccells n k (putK bs 0 L j)).toArray 29 ∧ Blk wr (w.heap.size + 1) (ccells 0 0 zbl).toArray 29 ∧ Below w.heap.size w wr
set_option maxRecDepth 100000 in
set_option maxHeartbeats 2000000 in
theorem turn52 (n k : Int) (bs : List Nat) (hb : Bys bs) (zs : List Int) (a : Option Addr) (cap : Nat) (w : World) (hs : SlI w a zs) (hi : isCol n k bs = true) (hk : (zs.length : Int) = k)
    (hz : ∀ j, j < zs.length → 0 ≤ zs.getD j 0 ∧ zs.getD j 0 < 256) :
    Calls Try.prog 52 #[.agg (ccells n k bs).toArray, .slice a zs.length cap] w fun e w' => e = .returned (.agg (ccells n k (paintB n.toNat (fun lo hi => zs.getD (colAt bs lo hi).toNat 0))).toArray) ∧ Below w.heap.size w w' := by
  obtain ⟨n1, n2, k1, k2⟩ := isCol_bd hi
  obtain ⟨N, rfl⟩ := Int.eq_ofNat_of_zero_le (show 0 ≤ n by omega)
  rw [Int.toNat_natCast]
  obtain ⟨L, hL⟩ : ∃ L, L = turnL (fun x => zs.getD x.toNat 0) bs := ⟨_, rfl⟩
  have hfin := turn_put hb hi (fun x => zs.getD x.toNat 0)
  rw [← hL] at hfin
  rw [← hfin]
  obtain ⟨m0, m1⟩ := mul_bd n1 n2
  have HM := hidd (show (N : Int) * ((N : Int) - 1) / 2 = ((eN N : Nat) : Int) from (eN_edg N).symm)
  have h136 := eN_17 (n := N) (by omega)
  have hLg : ∀ e, e < eN N → L.getD e 0 = zs.getD (bs.getD e 0) 0 ∧ bs.getD e 0 < zs.length := fun e he => by
    have h1 := col_lo hi (i := e) (by rw [← eN_edg]; omega) (by omega)
    rw [hL, turnL_get (by omega)]
    exact ⟨rfl, by omega⟩
  have HLG := hidd hLg
  have HZ := hidd hz
  have HSL := hidd hs
  have hbl : ∀ m, m ≤ eN N → Bys (putK bs 0 L m) := fun m => by
    induction m with
    | zero => exact fun _ => hb
    | succ m ih => exact fun hm => (ih (by omega)).set _ _ (by
        have h1 := hLg m (by omega)
        have h2 := hz _ h1.2
        rw [h1.1]; omega)
  have HB := hidd hbl
  have HPS := hidd (size_c26 (N : Int) k (hbl (eN N) (Nat.le_refl _)))
  have HPO := hidd (size_cc 0 0 (N : Int) k zbl_bys (hbl (eN N) (Nat.le_refl _)))
  have HPA := hidd (ccells_one (N : Int) k (putK bs 0 L (eN N)))
  have HBL := hidd hb.len
  clear hi hfin hLg hz hs hbl hL
  go_enter Try.func52, Try.ntmps52
  go_wp2_with fail
  go_loopw [5] (fun i wr => ∃ j : Nat, j ≤ eN N ∧ i = .int .i64 j ∧ RelTu (N : Int) k bs L w j wr) (fun i _ => eN N - (intOf i).toNat)
  case atStart => exact ⟨0, by omega, rfl, (Blk.new _ _ _ _ rfl).alloc _, Blk.new _ _ _ _ (by simp), ((Below.refl _ _).alloc (Nat.le_refl _) _).alloc (by simp) _⟩
  case round =>
    obtain ⟨j, hj, rfl, HR⟩ := hrel
    have hM := HM.out
    have c0 := HR.1.cell (j := 0) (show _ = some (Value.int .i64 (N : Int)) from rfl)
    by_cases hlt : j < eN N
    · have hsl := HSL.out.below HR.2.2 (Nat.le_refl _)
      have hxl := HLG.out j hlt
      rcases hsl with hz | ⟨b, off, ha, hc⟩
      · have := hxl.2; subst hz; simp at this
      · subst ha
        obtain ⟨x, hx⟩ : ∃ x, x = bs.getD j 0 := ⟨_, rfl⟩
        rw [← hx] at hxl
        have hcx := hc x hxl.2
        have hzx := HZ.out x hxl.2
        obtain ⟨z, hz⟩ : ∃ z, z = zs.getD x 0 := ⟨_, rfl⟩
        rw [← hz] at hcx hzx hxl
        obtain ⟨z0, z1⟩ := hzx
        have hxz := hxl.2
        have hwr : IntKind.u8.wrap z = z := u8_in z0 z1
        have hbj := HB.out j hj
        have hj136 : j < 136 := by omega
        have hgj : (putK bs 0 L j).getD j 0 = x := by rw [putK_get (by rw [HBL.out]; omega), if_neg (by omega), hx]
        have cj : wr.cell? ⟨w.heap.size, 2 + j, none⟩ = some (.int .u8 ((x : Nat) : Int)) := by have := HR.1.cell (hbj.cget (N : Int) k hj136); rw [hgj] at this; exact this
        have hfE := HR.1.fro (2 + j)
        have hst : Blk (wr.setCell ⟨w.heap.size, 2 + j, none⟩ (.int .u8 z)) w.heap.size (ccells (N : Int) k (putK bs 0 L (j + 1))).toArray 29 := by
          have := HR.1.same (2 + j) (.int .u8 z)
          obtain ⟨zz, hzz⟩ := Int.eq_ofNat_of_zero_le z0
          rw [hzz, ccells_set] at this
          rw [putK, hxl.1, hzz, Nat.zero_add]; exact this
        have hbe := HR.2.2.setCell (p := ⟨w.heap.size, 2 + j, none⟩) (by show w.heap.size ≤ w.heap.size; omega) (.int .u8 z)
        have K := hidd (show RelTu (N : Int) k bs L w (j + 1) _ from ⟨hst, HR.2.1.other _ _ (by show w.heap.size + 1 ≠ w.heap.size; omega), hbe⟩)
        have hji : (j : Int) < 136 := by omega
        clear hz hc hst hbe HR hbj hx hgj hxl
        go_wp2_with fail
        go_roundw
        case rel => exact ⟨j + 1, by omega, by go_num, K.out⟩
        case measure => simp [intOf]; omega
    · have hje : j = eN N := by omega
      subst hje
      have R := hidd (And.intro HR.1 (And.intro HR.2.1 (And.intro (HR.2.1.rowSame (ccells (N : Int) k (putK bs 0 L (eN N))).toArray) (below_setRow HR.2.2 (g := w.heap.size + 1) (by omega) (ccells (N : Int) k (putK bs 0 L (eN N))).toArray))))
      clear HR
      go_wp2_with (first
        | (refine wpList_load_row rfl 29 (.tmp 2) rfl w.heap.size rfl 29 _ (0,0) _ R.out.1 Try.underlying29 rfl HPS.out ?_)
        | (refine wpList_store_row rfl 29 (.tmp 4) (.tmp 28) rfl (w.heap.size + 1) _ rfl rfl 29 _ R.out.2.1 HPS.out HPO.out HPA.out ?_))
      refine bodyPost_ret (results_cell_row rfl _ _ (w.heap.size + 1) 29 _ (0,0) _ rfl R.out.2.2.1 Try.underlying29 rfl HPS.out) rfl ⟨rfl, R.out.2.2.2⟩
end Go.Proofs.Ytpjegmmichjlbaa
