/- PartOn: its model's entry. -/
import Derived.Test.YtjdniepheghpkaaPartSpec
namespace Go.Proofs.Ytjdniepheghpkaa
set_option linter.unusedVariables false
set_option linter.unusedSimpArgs false
open Go Go.RowKit Go.Shelf
theorem poB_bys (n k : Int) {bs : List Nat} (hb : Bys bs) (zs : List Int) : Bys (poB n k bs zs) := by
  unfold poB
  split
  · exact paintB_bys fun lo hi => colAt_bd hb _ _
  · exact zbl_bys
theorem setCode_0 {n k : Int} {bs : List Nat} {zs : List Int} (hi : isCol n k bs = true) (h : setB zs n = true) : setCode n k bs zs = 0 := by
  have hbd := isCol_bd hi
  unfold setB at h
  rw [Bool.and_eq_true] at h
  unfold setCode
  rw [if_pos (given_0 hi (inB_yes (by omega) (by omega)) h.2), if_pos h.1]
theorem setCode_2 {n k : Int} {bs : List Nat} {zs : List Int} (hi : isCol n k bs = true) (h : setB zs n = false) : setCode n k bs zs = 2 := by
  have hbd := isCol_bd hi
  have hc : belowB 0 k = true := inB_yes (by omega) (by omega)
  unfold setCode
  cases ha : allB zs n with
  | false =>
    have := given_2 (c := 0) hi (by rw [hc, ha]; rfl)
    rw [this]; rfl
  | true =>
    rw [if_pos (given_0 hi hc ha), if_neg]
    unfold setB at h
    rw [ha, Bool.and_true] at h
    rw [h]; simp
theorem setCode_1 {n k : Int} {bs : List Nat} {zs : List Int} (hi : isCol n k bs = false) : setCode n k bs zs = 1 := by
  unfold setCode; rw [given_1 hi]; rfl
set_option maxRecDepth 100000 in
set_option maxHeartbeats 2000000 in
theorem spec35 (n k : Int) (bs : List Nat) (hb : Bys bs) (zs : List Int) (a : Option Addr) (cap : Nat) (w : World) (hs : SlI w a zs) (hl : zs.length ≤ 9223372036854775807) :
    Calls Try.prog 35 #[.agg (ccells n k bs).toArray, .slice a zs.length cap] w fun e w' => e = .returned (poOut n k bs zs) ∧ Below w.heap.size w w' := by
  have HS := hidd (size_c26 n k hb)
  have Hz := zero26
  have HZS := hidd size_z26
  have HZ1 := hidd (ccells_one 0 0 zbl)
  have hmk : ∀ w0, w0 = (w.alloc (.cells (ccells n k bs).toArray 26)).alloc (.cells (ccells 0 0 zbl).toArray 26) → ∀ w1, Below w0.heap.size w0 w1 →
      Blk w1 w.heap.size (ccells n k bs).toArray 26 ∧ Blk w1 (w.heap.size + 1) (ccells 0 0 zbl).toArray 26 ∧ SlI w1 a zs ∧ Below w.heap.size w w1 := by
    rintro w0 rfl w1 hb1
    have hb := ((Below.refl w.heap.size w).alloc (Nat.le_refl _) (.cells (ccells n k bs).toArray 26)).alloc (by simp) (.cells (ccells 0 0 zbl).toArray 26)
    have hbl := hb.trans (hb1.mono (by simp; omega))
    exact ⟨((Blk.new _ _ _ _ rfl).alloc _).below hb1 (by simp; omega), (Blk.new _ _ _ _ (by simp)).below hb1 (by simp), hs.below hbl (Nat.le_refl _), hbl⟩
  have HMK := hidd hmk
  have HSA := hidd (hs.below (((Below.refl w.heap.size w).alloc (Nat.le_refl _) (.cells (ccells n k bs).toArray 26)).alloc (by simp) (.cells (ccells 0 0 zbl).toArray 26)) (Nat.le_refl _))
  clear hmk hs
  by_cases hg : isCol n k bs = true ∧ zs.length ≠ 0 ∧ setB zs n = true
  · obtain ⟨hi, h0, hset⟩ := hg
    obtain ⟨n1, n2, k1, k2⟩ := isCol_bd hi
    have H := hidd (poOut_good (poCode_0 (zs := zs) hi ⟨h0, hset⟩))
    have HC := hidd (setCode_0 (zs := zs) hi hset)
    have HSET := hidd hset
    have hq : ((zs.length : Int) == 0) = false := by rw [beq_eq_false_iff_ne]; omega
    have HPB := hidd (paintB_bys (N := zs.length) (r := fun lo hi => colAt bs (zs.getD lo 0) (zs.getD hi 0)) (fun lo hi => colAt_bd hb _ _))
    have HPS := hidd (size_c26 (zs.length : Int) k HPB.out)
    have HPO := hidd (size_cc 0 0 (zs.length : Int) k zbl_bys HPB.out)
    have HPA := hidd (ccells_one (zs.length : Int) k (paintB zs.length (fun lo hi => colAt bs (zs.getD lo 0) (zs.getD hi 0))))
    have h1 : 1 ≤ zs.length := by omega
    clear hi h0 hset
    go_enter Try.func35, Try.ntmps35
    go_wp2_with (refine wpList_load_row rfl 26 (.tmp 2) rfl w.heap.size rfl 26 _ (0,0) _ ((Blk.new _ _ _ _ rfl).alloc _) Try.underlying26 rfl HS.out ?_)
    refine (set67 n k bs hb zs a cap _ HSA.out hl).mono ?_
    rintro e w1 ⟨rfl, hb1⟩
    rw [HC.out]
    have G := hidd (HMK.out _ rfl _ hb1)
    clear hb1
    go_wp2_with (refine wpList_load_row rfl 26 (.tmp 2) rfl w.heap.size rfl 26 _ (0,0) _ G.out.1 Try.underlying26 rfl HS.out ?_)
    refine (part68 n k bs hb zs a cap _ G.out.2.2.1 n1 n2 HSET.out h1).mono ?_
    rintro e w2 ⟨rfl, hb2⟩
    have z2 := G.out.2.1.below hb2 G.out.2.1.lt
    have b2 := G.out.2.2.2.trans (hb2.mono G.out.2.2.2.size)
    have R := hidd (And.intro z2 (And.intro (z2.rowSame (ccells (zs.length : Int) k (paintB zs.length (fun lo hi => colAt bs (zs.getD lo 0) (zs.getD hi 0)))).toArray) (below_setRow b2 (g := w.heap.size + 1) (by omega) (ccells (zs.length : Int) k (paintB zs.length (fun lo hi => colAt bs (zs.getD lo 0) (zs.getD hi 0)))).toArray)))
    clear hb2 z2 b2
    go_wp2_with (refine wpList_store_row rfl 26 (.tmp 4) (.tmp 23) rfl (w.heap.size + 1) _ rfl rfl 26 _ R.out.1 HPS.out HPO.out HPA.out ?_)
    exact ret_col rfl HPB.out rfl R.out.2.1 rfl rfl ⟨by rw [H.out]; rfl, R.out.2.2⟩
  · obtain ⟨m, g, hm, hm0, hcase⟩ : ∃ m g, poCode n k bs zs = m ∧ m ≠ 0 ∧ setCode n k bs zs = g ∧ ((g = 0 ∧ zs.length = 0 ∧ m = 2) ∨ (g ≠ 0 ∧ m = g)) := by
      cases hi : isCol n k bs with
      | false => exact ⟨1, 1, poCode_1 hi, by omega, setCode_1 hi, .inr ⟨by omega, rfl⟩⟩
      | true =>
        have hp := poCode_2 (zs := zs) hi (fun h => hg ⟨hi, h.1, h.2⟩)
        cases hset : setB zs n with
        | false => exact ⟨2, 2, hp, by omega, setCode_2 hi hset, .inr ⟨by omega, rfl⟩⟩
        | true =>
          have h0 : zs.length = 0 := Classical.byContradiction fun h0 => hg ⟨hi, h0, hset⟩
          exact ⟨2, 0, hp, by omega, setCode_0 hi hset, .inl ⟨rfl, h0, rfl⟩⟩
    obtain ⟨hsc, hcase⟩ := hcase
    have H := hidd (poOut_bad hm hm0)
    have HC := hidd hsc
    clear hg hm hm0 hsc
    rcases hcase with ⟨rfl, h0, rfl⟩ | ⟨hg0, rfl⟩
    · have hq : ((zs.length : Int) == 0) = true := by simp [h0]
      clear h0
      go_enter Try.func35, Try.ntmps35
      go_wp2_with (refine wpList_load_row rfl 26 (.tmp 2) rfl w.heap.size rfl 26 _ (0,0) _ ((Blk.new _ _ _ _ rfl).alloc _) Try.underlying26 rfl HS.out ?_)
      refine (set67 n k bs hb zs a cap _ HSA.out hl).mono ?_
      rintro e w1 ⟨rfl, hb1⟩
      rw [HC.out]
      have G := hidd (HMK.out _ rfl _ hb1)
      have R := hidd (And.intro G.out.2.1 (And.intro (G.out.2.1.rowSame (ccells 0 0 zbl).toArray) (below_setRow G.out.2.2.2 (g := w.heap.size + 1) (by omega) (ccells 0 0 zbl).toArray)))
      clear hb1
      go_wp2_with (first
        | (refine wpList_zero26 rfl rfl ?_)
        | (refine wpList_store_row rfl 26 (.tmp 4) (.tmp 19) rfl (w.heap.size + 1) _ rfl rfl 26 _ R.out.1 HZS.out rfl HZ1.out ?_))
      exact ret_col rfl zbl_bys rfl R.out.2.1 rfl rfl ⟨by rw [H.out]; rfl, R.out.2.2⟩
    · have hq0 : (m == 0) = false := by rw [beq_eq_false_iff_ne]; exact hg0
      have hq1 : (m != 0) = true := by rw [bne_iff_ne]; exact hg0
      clear hg0
      go_enter Try.func35, Try.ntmps35
      go_wp2_with (refine wpList_load_row rfl 26 (.tmp 2) rfl w.heap.size rfl 26 _ (0,0) _ ((Blk.new _ _ _ _ rfl).alloc _) Try.underlying26 rfl HS.out ?_)
      refine (set67 n k bs hb zs a cap _ HSA.out hl).mono ?_
      rintro e w1 ⟨rfl, hb1⟩
      rw [HC.out]
      have G := hidd (HMK.out _ rfl _ hb1)
      have R := hidd (And.intro G.out.2.1 (And.intro (G.out.2.1.rowSame (ccells 0 0 zbl).toArray) (below_setRow G.out.2.2.2 (g := w.heap.size + 1) (by omega) (ccells 0 0 zbl).toArray)))
      clear hb1
      go_wp2_with (first
        | (refine wpList_zero26 rfl rfl ?_)
        | (refine wpList_store_row rfl 26 (.tmp 4) (.tmp 19) rfl (w.heap.size + 1) _ rfl rfl 26 _ R.out.1 HZS.out rfl HZ1.out ?_))
      exact ret_col rfl zbl_bys rfl R.out.2.1 rfl rfl ⟨by rw [H.out]; rfl, R.out.2.2⟩
end Go.Proofs.Ytjdniepheghpkaa
