/- ExchangeColours: its model and the program. -/
import Derived.Test.YtpjegmmichjlbaaExch
namespace Go.Proofs.Ytpjegmmichjlbaa
set_option linter.unusedVariables false
set_option linter.unusedSimpArgs false
open Go Go.RowKit Go.Shelf
set_option maxRecDepth 100000 in
set_option maxHeartbeats 2000000 in
theorem spec33 (n k : Int) (bs : List Nat) (hb : Bys bs) (zs : List Int) (a : Option Addr) (cap : Nat) (w : World) (hs : SlI w a zs) (hl : zs.length ≤ 9223372036854775807) :
    Calls Try.prog 33 #[.agg (ccells n k bs).toArray, .slice a zs.length cap] w fun e w' => e = .returned (exOut n k bs zs) ∧ Below w.heap.size w w' := by
  have HS := hidd (size_c26 n k hb)
  have Hz := zero26
  have HZS := hidd size_z26
  have HZ1 := hidd (ccells_one 0 0 zbl)
  have HC1 := hidd (show (ccells n k bs).toArray[1]? = some (.int .i64 k) from rfl)
  have hmk : ∀ w0, w0 = (w.alloc (.cells (ccells n k bs).toArray 29)).alloc (.cells (ccells 0 0 zbl).toArray 29) → ∀ w1, Below w0.heap.size w0 w1 →
      Blk w1 w.heap.size (ccells n k bs).toArray 29 ∧ Blk w1 (w.heap.size + 1) (ccells 0 0 zbl).toArray 29 ∧ SlI w1 a zs ∧ Below w.heap.size w w1 := by
    rintro w0 rfl w1 hb1
    have hb := ((Below.refl w.heap.size w).alloc (Nat.le_refl _) (.cells (ccells n k bs).toArray 29)).alloc (by simp) (.cells (ccells 0 0 zbl).toArray 29)
    have hbl := hb.trans (hb1.mono (by simp; omega))
    exact ⟨((Blk.new _ _ _ _ rfl).alloc _).below hb1 (by simp; omega), (Blk.new _ _ _ _ (by simp)).below hb1 (by simp), hs.below hbl (Nat.le_refl _), hbl⟩
  have HMK := hidd hmk
  clear hmk hs
  cases hi : isCol n k bs with
  | false =>
    have H := hidd (exOut_bad (exCode_1 (zs := zs) hi) (by omega))
    have HI := hidd hi
    clear hi
    go_enter Try.func33, Try.ntmps33
    go_wp2_with (refine wpList_load_row rfl 29 (.tmp 2) rfl w.heap.size rfl 29 _ (0,0) _ ((Blk.new _ _ _ _ rfl).alloc _) Try.underlying29 rfl HS.out ?_)
    refine (l01Is_any n k bs hb _).mono ?_
    rintro e w1 ⟨rfl, hb1⟩
    rw [HI.out]
    have G := hidd (HMK.out _ rfl _ hb1)
    have R := hidd (And.intro G.out.2.1 (And.intro (G.out.2.1.rowSame (ccells 0 0 zbl).toArray) (below_setRow G.out.2.2.2 (g := w.heap.size + 1) (by omega) (ccells 0 0 zbl).toArray)))
    clear hb1
    go_wp2_with (first
      | (refine wpList_zero26 rfl rfl ?_)
      | (refine wpList_store_row rfl 29 (.tmp 4) (.tmp 10) rfl (w.heap.size + 1) _ rfl rfl 29 _ R.out.1 HZS.out rfl HZ1.out ?_))
    exact ret_col rfl zbl_bys rfl R.out.2.1 rfl rfl ⟨by rw [H.out]; rfl, R.out.2.2⟩
  | true =>
    have HI := hidd hi
    obtain ⟨n1, n2, k1, k2⟩ := isCol_bd hi
    cases ho : ordB zs k with
    | false =>
      have H := hidd (exOut_bad (exCode_2 hi ho) (by omega))
      have HO := hidd ho
      clear hi ho
      go_enter Try.func33, Try.ntmps33
      go_wp2_with (refine wpList_load_row rfl 29 (.tmp 2) rfl w.heap.size rfl 29 _ (0,0) _ ((Blk.new _ _ _ _ rfl).alloc _) Try.underlying29 rfl HS.out ?_)
      refine (l01Is_any n k bs hb _).mono ?_
      rintro e w1 ⟨rfl, hb1⟩
      rw [HI.out]
      have G := hidd (HMK.out _ rfl _ hb1)
      have c1 := G.out.1.cell HC1.out
      clear hb1
      go_wp2_with fail
      refine (order63 zs a cap k _ G.out.2.2.1 hl k1 (by omega)).mono ?_
      rintro e w2 ⟨rfl, hb2⟩
      rw [HO.out]
      have z2 := G.out.2.1.below hb2 G.out.2.1.lt
      have b2 := G.out.2.2.2.trans (hb2.mono G.out.2.2.2.size)
      have R := hidd (And.intro z2 (And.intro (z2.rowSame (ccells 0 0 zbl).toArray) (below_setRow b2 (g := w.heap.size + 1) (by omega) (ccells 0 0 zbl).toArray)))
      clear hb2 z2 b2 c1
      go_wp2_with (first
        | (refine wpList_zero26 rfl rfl ?_)
        | (refine wpList_store_row rfl 29 (.tmp 4) (.tmp 17) rfl (w.heap.size + 1) _ rfl rfl 29 _ R.out.1 HZS.out rfl HZ1.out ?_))
      exact ret_col rfl zbl_bys rfl R.out.2.1 rfl rfl ⟨by rw [H.out]; rfl, R.out.2.2⟩
    | true =>
      have H := hidd (exOut_good (exCode_0 hi ho))
      have HO := hidd ho
      obtain ⟨o1, o2, o3⟩ := ord_len ho
      obtain ⟨PB, hPB⟩ : ∃ PB, PB = paintB n.toNat (fun lo hi => zs.getD (colAt bs lo hi).toNat 0) := ⟨_, rfl⟩
      have HPB := hidd (show Bys PB by rw [hPB]; exact paintB_bys fun lo hi => ex_rng o2 (by omega) _)
      have HT := hidd (fun W (hs : SlI W a zs) => turn52 n k bs hb zs a cap W hs hi o1 (fun j hj => ex_rng o2 (by omega) j))
      rw [← hPB] at H
      have HPE := hidd hPB
      have HPS := hidd (size_c26 n k HPB.out)
      have HPO := hidd (size_cc 0 0 n k zbl_bys HPB.out)
      have HPA := hidd (ccells_one n k PB)
      clear hi ho hPB o1 o2 o3
      go_enter Try.func33, Try.ntmps33
      go_wp2_with (refine wpList_load_row rfl 29 (.tmp 2) rfl w.heap.size rfl 29 _ (0,0) _ ((Blk.new _ _ _ _ rfl).alloc _) Try.underlying29 rfl HS.out ?_)
      refine (l01Is_any n k bs hb _).mono ?_
      rintro e w1 ⟨rfl, hb1⟩
      rw [HI.out]
      have G := hidd (HMK.out _ rfl _ hb1)
      have c1 := G.out.1.cell HC1.out
      clear hb1
      go_wp2_with fail
      refine (order63 zs a cap k _ G.out.2.2.1 hl k1 (by omega)).mono ?_
      rintro e w2 ⟨rfl, hb2⟩
      rw [HO.out]
      have G2 := hidd (And.intro (G.out.1.below hb2 G.out.1.lt) (And.intro (G.out.2.1.below hb2 G.out.2.1.lt) (And.intro (G.out.2.2.1.below hb2 (Nat.le_refl _)) (G.out.2.2.2.trans (hb2.mono G.out.2.2.2.size)))))
      clear hb2 c1
      go_wp2_with (refine wpList_load_row rfl 29 (.tmp 2) rfl w.heap.size rfl 29 _ (0,0) _ G2.out.1 Try.underlying29 rfl HS.out ?_)
      refine (HT.out _ G2.out.2.2.1).mono ?_
      rintro e w3 ⟨he, hb3⟩
      rw [← HPE.out] at he
      subst he
      have z3 := G2.out.2.1.below hb3 G2.out.2.1.lt
      have b3 := G2.out.2.2.2.trans (hb3.mono G2.out.2.2.2.size)
      have R := hidd (And.intro z3 (And.intro (z3.rowSame (ccells n k PB).toArray) (below_setRow b3 (g := w.heap.size + 1) (by omega) (ccells n k PB).toArray)))
      clear hb3 z3 b3
      go_wp2_with (refine wpList_store_row rfl 29 (.tmp 4) (.tmp 20) rfl (w.heap.size + 1) _ rfl rfl 29 _ R.out.1 HPS.out HPO.out HPA.out ?_)
      exact ret_col rfl HPB.out rfl R.out.2.1 rfl rfl ⟨by rw [H.out]; rfl, R.out.2.2⟩
set_option maxRecDepth 100000 in
set_option maxHeartbeats 2000000 in
theorem impl34 (n k : Int) (bs : List Nat) (hb : Bys bs) (zs : List Int) (a : Option Addr) (cap : Nat) (w : World) (hs : SlI w a zs) (hl : zs.length ≤ 9223372036854775807) :
    Calls Try.prog 34 #[.agg (ccells n k bs).toArray, .slice a zs.length cap] w fun e w' => e = .returned (exOut n k bs zs) ∧ Below w.heap.size w w' := by
  have HS := hidd (size_c26 n k hb)
  have Hz := zero26
  have HZS := hidd size_z26
  have HZ1 := hidd (ccells_one 0 0 zbl)
  have HC0 := hidd (show (ccells n k bs).toArray[0]? = some (.int .i64 n) from rfl)
  have HC1 := hidd (show (ccells n k bs).toArray[1]? = some (.int .i64 k) from rfl)
  have hmk : ∀ w0, w0 = ((w.alloc (.cells (ccells n k bs).toArray 29)).alloc (.cells #[.slice a zs.length cap] 38)).alloc (.cells (ccells 0 0 zbl).toArray 29) → ∀ w1, Below w0.heap.size w0 w1 →
      Blk w1 w.heap.size (ccells n k bs).toArray 29 ∧ Blk w1 (w.heap.size + 1) #[.slice a zs.length cap] 38 ∧ Blk w1 (w.heap.size + 1 + 1) (ccells 0 0 zbl).toArray 29 ∧ SlI w1 a zs ∧ Below w.heap.size w w1 := by
    rintro w0 rfl w1 hb1
    have hb := (((Below.refl w.heap.size w).alloc (Nat.le_refl _) (.cells (ccells n k bs).toArray 29)).alloc (by simp) (.cells #[.slice a zs.length cap] 38)).alloc (by simp; omega) (.cells (ccells 0 0 zbl).toArray 29)
    have hbl := hb.trans (hb1.mono (by simp; omega))
    exact ⟨(((Blk.new _ _ _ _ rfl).alloc _).alloc _).below hb1 (by simp; omega), ((Blk.new _ _ _ _ (by simp)).alloc _).below hb1 (by simp), (Blk.new _ _ _ _ (by simp)).below hb1 (by simp), hs.below hbl (Nat.le_refl _), hbl⟩
  have HMK := hidd hmk
  clear hmk hs
  cases hi : isCol n k bs with
  | false =>
    have H := hidd (exOut_bad (exCode_1 (zs := zs) hi) (by omega))
    have HI := hidd hi
    clear hi
    go_enter Try.func34, Try.ntmps34
    go_wp2_with (refine wpList_load_row rfl 29 (.tmp 2) rfl w.heap.size rfl 29 _ (0,0) _ (((Blk.new _ _ _ _ rfl).alloc _).alloc _) Try.underlying29 rfl HS.out ?_)
    refine (implIs_any n k bs hb _).mono ?_
    rintro e w1 ⟨rfl, hb1⟩
    rw [HI.out]
    have G := hidd (HMK.out _ rfl _ hb1)
    have R := hidd (And.intro G.out.2.2.1 (And.intro (G.out.2.2.1.rowSame (ccells 0 0 zbl).toArray) (below_setRow G.out.2.2.2.2 (g := w.heap.size + 1 + 1) (by omega) (ccells 0 0 zbl).toArray)))
    clear hb1
    go_wp2_with (first
      | (refine wpList_zero26 rfl rfl ?_)
      | (refine wpList_store_row rfl 29 (.tmp 4) (.tmp 9) rfl (w.heap.size + 1 + 1) _ rfl rfl 29 _ R.out.1 HZS.out rfl HZ1.out ?_))
    exact ret_col rfl zbl_bys rfl R.out.2.1 rfl rfl ⟨by rw [H.out]; rfl, R.out.2.2⟩
  | true =>
    have HI := hidd hi
    obtain ⟨n1, n2, k1, k2⟩ := isCol_bd hi
    cases ho : ordB zs k with
    | false =>
      have H := hidd (exOut_bad (exCode_2 hi ho) (by omega))
      have HO := hidd ho
      clear hi ho
      go_enter Try.func34, Try.ntmps34
      go_wp2_with (refine wpList_load_row rfl 29 (.tmp 2) rfl w.heap.size rfl 29 _ (0,0) _ (((Blk.new _ _ _ _ rfl).alloc _).alloc _) Try.underlying29 rfl HS.out ?_)
      refine (implIs_any n k bs hb _).mono ?_
      rintro e w1 ⟨rfl, hb1⟩
      rw [HI.out]
      have G := hidd (HMK.out _ rfl _ hb1)
      have c5 := G.out.2.1.cell (j := 0) (show _ = some (Value.slice a zs.length cap) from rfl)
      have c1 := G.out.1.cell HC1.out
      clear hb1
      go_wp2_with fail
      refine (order65 zs a cap k _ G.out.2.2.2.1 hl k1 (by omega)).mono ?_
      rintro e w2 ⟨rfl, hb2⟩
      rw [HO.out]
      have z2 := G.out.2.2.1.below hb2 G.out.2.2.1.lt
      have b2 := G.out.2.2.2.2.trans (hb2.mono G.out.2.2.2.2.size)
      have R := hidd (And.intro z2 (And.intro (z2.rowSame (ccells 0 0 zbl).toArray) (below_setRow b2 (g := w.heap.size + 1 + 1) (by omega) (ccells 0 0 zbl).toArray)))
      clear hb2 z2 b2 c5 c1
      go_wp2_with (first
        | (refine wpList_zero26 rfl rfl ?_)
        | (refine wpList_store_row rfl 29 (.tmp 4) (.tmp 15) rfl (w.heap.size + 1 + 1) _ rfl rfl 29 _ R.out.1 HZS.out rfl HZ1.out ?_))
      exact ret_col rfl zbl_bys rfl R.out.2.1 rfl rfl ⟨by rw [H.out]; rfl, R.out.2.2⟩
    | true =>
      have H := hidd (exOut_good (exCode_0 hi ho))
      have HO := hidd ho
      obtain ⟨o1, o2, o3⟩ := ord_len ho
      obtain ⟨N, rfl⟩ := Int.eq_ofNat_of_zero_le (show 0 ≤ n by omega)
      obtain ⟨r, hr⟩ : ∃ r : Nat → Nat → Int, r = fun (lo hi : Nat) => zs.getD (colAt bs (lo : Int) (hi : Int)).toNat 0 := ⟨_, rfl⟩
      have hrb : ∀ lo hi, 0 ≤ r lo hi ∧ r lo hi < 256 := fun lo hi => by rw [hr]; exact ex_rng o2 (by omega) _
      rw [Int.toNat_natCast, ← hr] at H
      have HRB := hidd hrb
      have HR := hidd hr
      have HRU := hidd (fun b0 b1 W hC hB hs => ruleOf68 N k bs hb b0 b1 zs a cap W hC hB hs hi o1)
      have HPB := hidd (paintB_bys (N := N) hrb)
      have HPS := hidd (size_c26 (N : Int) k HPB.out)
      have HPO := hidd (size_cc 0 0 (N : Int) k zbl_bys HPB.out)
      have HPA := hidd (ccells_one (N : Int) k (paintB N r))
      clear hi ho hrb hr o1 o2 o3
      go_enter Try.func34, Try.ntmps34
      go_wp2_with (refine wpList_load_row rfl 29 (.tmp 2) rfl w.heap.size rfl 29 _ (0,0) _ (((Blk.new _ _ _ _ rfl).alloc _).alloc _) Try.underlying29 rfl HS.out ?_)
      refine (implIs_any (N : Int) k bs hb _).mono ?_
      rintro e w1 ⟨rfl, hb1⟩
      rw [HI.out]
      have G := hidd (HMK.out _ rfl _ hb1)
      have c5 := G.out.2.1.cell (j := 0) (show _ = some (Value.slice a zs.length cap) from rfl)
      have c1 := G.out.1.cell HC1.out
      clear hb1
      go_wp2_with fail
      refine (order65 zs a cap k _ G.out.2.2.2.1 hl k1 (by omega)).mono ?_
      rintro e w2 ⟨rfl, hb2⟩
      rw [HO.out]
      have G2 := hidd (And.intro (G.out.1.below hb2 G.out.1.lt) (And.intro (G.out.2.1.below hb2 G.out.2.1.lt) (And.intro (G.out.2.2.1.below hb2 G.out.2.2.1.lt) (And.intro (G.out.2.2.2.1.below hb2 (Nat.le_refl _)) (G.out.2.2.2.2.trans (hb2.mono G.out.2.2.2.2.size))))))
      clear hb2 c5 c1
      have c0 := G2.out.1.cell HC0.out
      have c1 := G2.out.1.cell HC1.out
      go_wp2_with fail
      refine (paint52 N k 68 _ r w2 (by omega) (by omega) (fun x => HRB.out _ _) (enters_of Try.func68 (by kernel_rfl) rfl) (by rw [HR.out]; exact HRU.out _ _ w2 G2.out.1 G2.out.2.1 G2.out.2.2.2.1)).mono ?_
      rintro e w3 ⟨rfl, hb3⟩
      have z3 := G2.out.2.2.1.below hb3 G2.out.2.2.1.lt
      have b3 := G2.out.2.2.2.2.trans (hb3.mono G2.out.2.2.2.2.size)
      have R := hidd (And.intro z3 (And.intro (z3.rowSame (ccells (N : Int) k (paintB N r)).toArray) (below_setRow b3 (g := w.heap.size + 1 + 1) (by omega) (ccells (N : Int) k (paintB N r)).toArray)))
      clear hb3 z3 b3 c0 c1
      go_wp2_with (refine wpList_store_row rfl 29 (.tmp 4) (.tmp 21) rfl (w.heap.size + 1 + 1) _ rfl rfl 29 _ R.out.1 HPS.out HPO.out HPA.out ?_)
      exact ret_col rfl HPB.out rfl R.out.2.1 rfl rfl ⟨by rw [H.out]; rfl, R.out.2.2⟩
end Go.Proofs.Ytpjegmmichjlbaa
