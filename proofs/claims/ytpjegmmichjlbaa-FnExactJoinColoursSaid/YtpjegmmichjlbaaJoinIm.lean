/- JoinColours: the program. -/
import Derived.Test.YtpjegmmichjlbaaJoin
namespace Go.Proofs.Ytpjegmmichjlbaa
set_option linter.unusedVariables false
set_option linter.unusedSimpArgs false
open Go Go.RowKit
theorem ruleOf55 (N : Nat) (k : Int) (bs : List Nat) (hb : Bys bs) (b0 b1 b2 : Nat) (c d : Int) (w : World) (hC : Blk w b0 (ccells (N : Int) k bs).toArray 29) (hD : Blk w b1 #[.int .i64 d] 2) (hc : Blk w b2 #[.int .i64 c] 2) (n2 : N ≤ 17) :
    Rule N 55 #[.pointer (some ⟨b0, 0, none⟩), .pointer (some ⟨b1, 0, none⟩), .pointer (some ⟨b2, 0, none⟩)] (fun lo hi => jq c d (colAt bs lo hi)) w := by
  intro x W hbl
  obtain ⟨hx1, hx2, hx3⟩ := x.2
  exact rule55 (N : Int) k bs hb b0 b1 b2 c d W (hC.below hbl hC.lt) (hD.below hbl hD.lt) (hc.below hbl hc.lt) (by omega) x.1.2.1 x.1.2.2 hx2 (by omega)
set_option maxRecDepth 100000 in
set_option maxHeartbeats 2000000 in
theorem impl22 (n k : Int) (bs : List Nat) (hb : Bys bs) (c d : Int) (w : World) :
    Calls Try.prog 22 #[.agg (ccells n k bs).toArray, .int .i64 c, .int .i64 d] w fun e w' => e = .returned (jcOut n k bs c d) ∧ Below w.heap.size w w' := by
  have HS := hidd (size_c26 n k hb)
  have Hz := zero26
  have HZS := hidd size_z26
  have HZ1 := hidd (ccells_one 0 0 zbl)
  have HC0 := hidd (show (ccells n k bs).toArray[0]? = some (.int .i64 n) from rfl)
  have HC1 := hidd (show (ccells n k bs).toArray[1]? = some (.int .i64 k) from rfl)
  have hmk : ∀ w0, w0 = (((w.alloc (.cells (ccells n k bs).toArray 29)).alloc (.cells #[.int .i64 c] 2)).alloc (.cells #[.int .i64 d] 2)).alloc (.cells (ccells 0 0 zbl).toArray 29) → ∀ w1, Below w0.heap.size w0 w1 →
      Blk w1 w.heap.size (ccells n k bs).toArray 29 ∧ Blk w1 (w.heap.size + 1) #[.int .i64 c] 2 ∧ Blk w1 (w.heap.size + 1 + 1) #[.int .i64 d] 2 ∧ Blk w1 (w.heap.size + 1 + 1 + 1) (ccells 0 0 zbl).toArray 29 ∧ Below w.heap.size w w1 := by
    rintro w0 rfl w1 hb1
    have hb := ((((Below.refl w.heap.size w).alloc (Nat.le_refl _) (.cells (ccells n k bs).toArray 29)).alloc (by simp) (.cells #[.int .i64 c] 2)).alloc (by simp; omega) (.cells #[.int .i64 d] 2)).alloc (by simp; omega) (.cells (ccells 0 0 zbl).toArray 29)
    have hbl := hb.trans (hb1.mono (by simp; omega))
    exact ⟨((((Blk.new _ _ _ _ rfl).alloc _).alloc _).alloc _).below hb1 (by simp <;> omega), (((Blk.new _ _ _ _ (by simp)).alloc _).alloc _).below hb1 (by simp <;> omega), ((Blk.new _ _ _ _ (by simp)).alloc _).below hb1 (by simp), (Blk.new _ _ _ _ (by simp)).below hb1 (by simp), hbl⟩
  have HMK := hidd hmk
  clear hmk
  cases hi : isCol n k bs with
  | false =>
    have H := hidd (jcOut_bad (jcCode_1 (c := c) (d := d) hi) (by omega))
    have HI := hidd hi
    clear hi
    go_enter Try.func22, Try.ntmps22
    go_wp2_with (refine wpList_load_row rfl 29 (.tmp 3) rfl w.heap.size rfl 29 _ (0,0) _ ((((Blk.new _ _ _ _ rfl).alloc _).alloc _).alloc _) Try.underlying29 rfl HS.out ?_)
    refine (implIs_any n k bs hb _).mono ?_
    rintro e w1 ⟨rfl, hb1⟩
    rw [HI.out]
    have G := hidd (HMK.out _ rfl _ hb1)
    have R := hidd (And.intro G.out.2.2.2.1 (And.intro (G.out.2.2.2.1.rowSame (ccells 0 0 zbl).toArray) (below_setRow G.out.2.2.2.2 (g := w.heap.size + 1 + 1 + 1) (by omega) (ccells 0 0 zbl).toArray)))
    clear hb1
    go_wp2_with (first
      | (refine wpList_zero26 rfl rfl ?_)
      | (refine wpList_store_row rfl 29 (.tmp 6) (.tmp 11) rfl (w.heap.size + 1 + 1 + 1) _ rfl rfl 29 _ R.out.1 HZS.out rfl HZ1.out ?_))
    exact ret_col rfl zbl_bys rfl R.out.2.1 rfl rfl ⟨by rw [H.out]; rfl, R.out.2.2⟩
  | true =>
    have HI := hidd hi
    obtain ⟨n1, n2, k1, k2⟩ := isCol_bd hi
    cases hset : setB [c, d] k with
    | false =>
      have H := hidd (jcOut_bad (jcCode_2 hi hset) (by omega))
      have HP := hidd hset
      clear hi hset
      go_enter Try.func22, Try.ntmps22
      go_wp2_with (refine wpList_load_row rfl 29 (.tmp 3) rfl w.heap.size rfl 29 _ (0,0) _ ((((Blk.new _ _ _ _ rfl).alloc _).alloc _).alloc _) Try.underlying29 rfl HS.out ?_)
      refine (implIs_any n k bs hb _).mono ?_
      rintro e w1 ⟨rfl, hb1⟩
      rw [HI.out]
      have G := hidd (HMK.out _ rfl _ hb1)
      have c0 := G.out.1.cell HC0.out
      have c1 := (G.out.1.alloc (.cells #[.int .i64 c, .int .i64 d] 2)).cell HC1.out
      have cc := G.out.2.1.cell (j := 0) (show _ = some (Value.int .i64 c) from rfl)
      have cd := G.out.2.2.1.cell (j := 0) (show _ = some (Value.int .i64 d) from rfl)
      clear hb1
      go_wp2_with fail
      refine (set69 [c, d] (some ⟨w1.heap.size, 0, none⟩) 2 k _ (sl2 _ c d _ _ rfl) (by simp)).mono ?_
      rintro e w2 ⟨rfl, hb2⟩
      rw [HP.out]
      have hb2' := ((Below.refl w1.heap.size w1).alloc (Nat.le_refl _) (.cells #[.int .i64 c, .int .i64 d] 2)).trans (hb2.mono (by simp))
      have z2 := G.out.2.2.2.1.below hb2' G.out.2.2.2.1.lt
      have b2 := G.out.2.2.2.2.trans (hb2'.mono G.out.2.2.2.2.size)
      have R := hidd (And.intro z2 (And.intro (z2.rowSame (ccells 0 0 zbl).toArray) (below_setRow b2 (g := w.heap.size + 1 + 1 + 1) (by omega) (ccells 0 0 zbl).toArray)))
      clear hb2 hb2' z2 b2 c0 c1 cc cd
      go_wp2_with (first
        | (refine wpList_zero26 rfl rfl ?_)
        | (refine wpList_store_row rfl 29 (.tmp 6) (.tmp 19) rfl (w.heap.size + 1 + 1 + 1) _ rfl rfl 29 _ R.out.1 HZS.out rfl HZ1.out ?_))
      exact ret_col rfl zbl_bys rfl R.out.2.1 rfl rfl ⟨by rw [H.out]; rfl, R.out.2.2⟩
    | true =>
      have H := hidd (jcOut_good (jcCode_0 hi hset))
      have HP := hidd hset
      obtain ⟨s0, s1, s2⟩ := set2_bd hset
      obtain ⟨N, rfl⟩ := Int.eq_ofNat_of_zero_le (show 0 ≤ n by omega)
      obtain ⟨r, hr⟩ : ∃ r : Nat → Nat → Int, r = fun (lo hi : Nat) => jq c d (colAt bs (lo : Int) (hi : Int)) := ⟨_, rfl⟩
      have hrb : ∀ lo hi, 0 ≤ r lo hi ∧ r lo hi < 256 := fun lo hi => by rw [hr]; exact jq_bd (by omega) (by omega) (colAt_bd hb _ _)
      rw [Int.toNat_natCast, ← hr] at H
      have HRB := hidd hrb
      have HR := hidd hr
      have HPB := hidd (paintB_bys (N := N) hrb)
      have HPS := hidd (size_c26 (N : Int) (k - 1) HPB.out)
      have HPO := hidd (size_cc 0 0 (N : Int) (k - 1) zbl_bys HPB.out)
      have HPA := hidd (ccells_one (N : Int) (k - 1) (paintB N r))
      clear hi hset hrb hr
      go_enter Try.func22, Try.ntmps22
      go_wp2_with (refine wpList_load_row rfl 29 (.tmp 3) rfl w.heap.size rfl 29 _ (0,0) _ ((((Blk.new _ _ _ _ rfl).alloc _).alloc _).alloc _) Try.underlying29 rfl HS.out ?_)
      refine (implIs_any (N : Int) k bs hb _).mono ?_
      rintro e w1 ⟨rfl, hb1⟩
      rw [HI.out]
      have G := hidd (HMK.out _ rfl _ hb1)
      have c1 := (G.out.1.alloc (.cells #[.int .i64 c, .int .i64 d] 2)).cell HC1.out
      have cc := G.out.2.1.cell (j := 0) (show _ = some (Value.int .i64 c) from rfl)
      have cd := G.out.2.2.1.cell (j := 0) (show _ = some (Value.int .i64 d) from rfl)
      clear hb1
      go_wp2_with fail
      refine (set69 [c, d] (some ⟨w1.heap.size, 0, none⟩) 2 k _ (sl2 _ c d _ _ rfl) (by simp)).mono ?_
      rintro e w2 ⟨rfl, hb2⟩
      rw [HP.out]
      have hb2' := ((Below.refl w1.heap.size w1).alloc (Nat.le_refl _) (.cells #[.int .i64 c, .int .i64 d] 2)).trans (hb2.mono (by simp))
      have G2 := hidd (And.intro (G.out.1.below hb2' G.out.1.lt) (And.intro (G.out.2.1.below hb2' G.out.2.1.lt) (And.intro (G.out.2.2.1.below hb2' G.out.2.2.1.lt) (And.intro (G.out.2.2.2.1.below hb2' G.out.2.2.2.1.lt) (G.out.2.2.2.2.trans (hb2'.mono G.out.2.2.2.2.size))))))
      clear hb2 hb2' c1 cc cd
      have c0 := G2.out.1.cell HC0.out
      have c1 := G2.out.1.cell HC1.out
      go_wp2_with fail
      refine (paint52 N (k - 1) 55 _ r w2 (by omega) (by omega) (fun x => HRB.out _ _) (enters_of Try.func55 (by kernel_rfl) rfl) (by rw [HR.out]; exact ruleOf55 N k bs hb _ _ _ c d w2 G2.out.1 G2.out.2.2.1 G2.out.2.1 (by omega))).mono ?_
      rintro e w3 ⟨rfl, hb3⟩
      have z3 := G2.out.2.2.2.1.below hb3 G2.out.2.2.2.1.lt
      have b3 := G2.out.2.2.2.2.trans (hb3.mono G2.out.2.2.2.2.size)
      have R := hidd (And.intro z3 (And.intro (z3.rowSame (ccells (N : Int) (k - 1) (paintB N r)).toArray) (below_setRow b3 (g := w.heap.size + 1 + 1 + 1) (by omega) (ccells (N : Int) (k - 1) (paintB N r)).toArray)))
      clear hb3 z3 b3 c0 c1
      go_wp2_with (refine wpList_store_row rfl 29 (.tmp 6) (.tmp 26) rfl (w.heap.size + 1 + 1 + 1) _ rfl rfl 29 _ R.out.1 HPS.out HPO.out HPA.out ?_)
      exact ret_col rfl HPB.out rfl R.out.2.1 rfl rfl ⟨by rw [H.out]; rfl, R.out.2.2⟩
end Go.Proofs.Ytpjegmmichjlbaa
