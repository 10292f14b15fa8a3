/- FirstOfSizes: the program. -/
import Derived.Test.YtkiocedhibeieaaDoorFzm
import Derived.Test.YtkiocedhibeieaaDoorPts
namespace Go.Proofs.YtkiocedhibeieaaDoor
set_option linter.unusedVariables false
set_option linter.unusedSimpArgs false
open Go Go.RowKit Go.Shelf
/-- A number, a list of the call's own and a code. -/
def NOut (w : World) (c : Int) (zs : List Int) (code : Int) (e : Ending) (w' : World) : Prop :=
  ∃ a cap, e = .returned (.tuple #[.int .i64 c, .slice a zs.length cap, .int .i64 code]) ∧ OwnL w' w.heap.size a zs ∧ Below w.heap.size w w'
theorem fsR_no {N : Nat} {bs : List Nat} {zs : List Int} {K : Nat} (hN : N ≤ 17) (hsz : szP zs K = true) (h : fzI N bs zs K = none) : fsR N bs zs K = (0, 0) := by
  have := fsR_fz (bs := bs) hN hsz
  rw [h] at this
  exact this
theorem fsR_yes {N : Nat} {bs : List Nat} {zs : List Int} {K d : Nat} (hN : N ≤ 17) (hsz : szP zs K = true) (h : fzI N bs zs K = some d) : fsR N bs zs K = (d, bitS (fzS N bs zs d)) := by
  have := fsR_fz (bs := bs) hN hsz
  rw [h] at this
  exact this
set_option maxRecDepth 100000 in
set_option maxHeartbeats 2000000 in
theorem impl16 (n k : Int) (bs : List Nat) (hb : Bys bs) (zs : List Int) (a : Option Addr) (cap : Nat) (w : World) (hT : Tz w) (hw0 : 0 < w.heap.size) (hs : SlI w a zs) (hl : zs.length ≤ 1048576) (hcap : zs.length ≤ cap) :
    Calls Tryd.prog 16 #[.agg (ccells n k bs).toArray, .slice a zs.length cap] w (NOut w (fzC n k bs zs) (fzL n k bs zs) (fzE n k bs zs)) := by
  have HS := hidd (size_c26 n k hb)
  have HC1 := hidd (show (ccells n k bs).toArray[1]? = some (.int .i64 k) from rfl)
  have HSL := hidd hs
  have HT := hidd hT
  have HSZ := hidd (fun W h => sizes30 k zs a cap W h hl)
  clear hT
  cases hi : isCol n k bs with
  | false =>
    have hc1 := szCode_1 (zs := zs) hi
    have hg := fz_bad (n := n) (k := k) (bs := bs) (zs := zs) (by rw [hc1]; omega)
    rw [hg.1, hg.2.1, hg.2.2, hc1]
    have HI := hidd hi
    clear hi hc1 hg hs
    go_enter Tryd.func16, Tryd.ntmps16
    go_wp2_with (refine wpList_load_row rfl 28 (.tmp 2) rfl w.heap.size rfl 28 _ (0,0) _ (Blk.new _ _ _ _ rfl) Tryd.underlying28 rfl HS.out ?_)
    refine (implIs_any n k bs hb _).mono ?_
    rintro e w1 ⟨rfl, hb1⟩
    rw [HI.out]
    have G := hidd (((Below.refl w.heap.size w).alloc (Nat.le_refl _) (.cells (ccells n k bs).toArray 28)).trans (hb1.mono (by simp)))
    clear hb1
    go_wp2_with fail
    go_ret3
    exact ⟨none, 0, rfl, .inl rfl, G.out⟩
  | true =>
    obtain ⟨n1, n2, k1, k2⟩ := isCol_bd hi
    have HI := hidd hi
    cases hok : szOk k zs with
    | false =>
      have hc2 := szCode_2 hi hok
      have hg := fz_bad (n := n) (k := k) (bs := bs) (zs := zs) (by rw [hc2]; omega)
      rw [hg.1, hg.2.1, hg.2.2, hc2]
      have HOK := hidd hok
      clear hi hc2 hg hs hok
      go_enter Tryd.func16, Tryd.ntmps16
      go_wp2_with (refine wpList_load_row rfl 28 (.tmp 2) rfl w.heap.size rfl 28 _ (0,0) _ (Blk.new _ _ _ _ rfl) Tryd.underlying28 rfl HS.out ?_)
      refine (implIs_any n k bs hb _).mono ?_
      rintro e w1 ⟨rfl, hb1⟩
      rw [HI.out]
      have c1 := ((Blk.new w (ccells n k bs).toArray 28 _ rfl).below hb1 (by simp)).cell HC1.out
      have G := hidd (((Below.refl w.heap.size w).alloc (Nat.le_refl _) (.cells (ccells n k bs).toArray 28)).trans (hb1.mono (by simp)))
      have HZ := hidd (HSZ.out _ (HSL.out.below G.out (Nat.le_refl _)))
      clear hb1
      go_wp2_with (go_at_call 45; refine HZ.out.mono ?_; rintro e w' ⟨rfl, rfl⟩; rw [HOK.out])
      go_ret3
      exact ⟨none, 0, rfl, .inl rfl, G.out⟩
    | true =>
      have hc0 := szCode_0 hi hok
      have HOK := hidd hok
      have hg := fz_good (n := n) (k := k) (bs := bs) (zs := zs) hc0
      unfold szOk at hok
      rw [Bool.and_eq_true] at hok
      have hlk := of_decide_eq_true hok.1
      obtain ⟨N, rfl⟩ := Int.eq_ofNat_of_zero_le (show 0 ≤ n by omega)
      obtain ⟨K, rfl⟩ := Int.eq_ofNat_of_zero_le (show 0 ≤ k by omega)
      have hlK : zs.length = K := by omega
      have hsz : szP zs K = true := by rw [← hlK]; exact hok.2
      rw [Int.toNat_natCast, Int.toNat_natCast] at hg
      rw [hg.1, hg.2.1, hg.2.2]
      have hFS := fun W h => firsts31 N K bs hb zs a cap W h hlK (by omega) (by omega) (by omega)
      rw [hlK] at HSZ ⊢
      cases hfi : fzI N bs zs K with
      | none =>
        have HR := hidd (fzR_none hfi)
        have hfr := fsR_no (N := N) (bs := bs) (by omega) hsz hfi
        rw [hfr] at hFS
        have HFS := hidd hFS
        clear hFS hfr hfi hi hc0 hok hlk hg hs hlK hl hsz
        go_enter Tryd.func16, Tryd.ntmps16
        go_wp2_with (refine wpList_load_row rfl 28 (.tmp 2) rfl w.heap.size rfl 28 _ (0,0) _ (Blk.new _ _ _ _ rfl) Tryd.underlying28 rfl HS.out ?_)
        refine (implIs_any (N : Int) (K : Int) bs hb _).mono ?_
        rintro e w1 ⟨rfl, hb1⟩
        rw [HI.out]
        have B1 := ((Blk.new w (ccells (N : Int) (K : Int) bs).toArray 28 _ rfl).below hb1 (by simp))
        have c1 := B1.cell HC1.out
        have G := hidd (And.intro B1 (((Below.refl w.heap.size w).alloc (Nat.le_refl _) (.cells (ccells (N : Int) (K : Int) bs).toArray 28)).trans (hb1.mono (by simp))))
        have HZ := hidd (HSZ.out _ (HSL.out.below G.out.2 (Nat.le_refl _)))
        have HF := hidd (HFS.out w1 (HSL.out.below G.out.2 (Nat.le_refl _)))
        clear hb1 B1
        go_wp2_with (first | (go_at_call 45; refine HZ.out.mono ?_; rintro e w' ⟨rfl, rfl⟩; rw [HOK.out]) | refine wpList_load_row rfl 28 (.tmp 2) rfl w.heap.size rfl 28 _ (0,0) _ G.out.1 Tryd.underlying28 rfl HS.out ?_)
        refine HF.out.mono ?_
        rintro e w2 ⟨rfl, hb2⟩
        have R := hidd (G.out.2.trans (hb2.mono G.out.2.size))
        clear hb2
        go_wp2_with fail
        go_ret3
        rw [HR.out]
        exact ⟨none, 0, rfl, .inl rfl, R.out⟩
      | some d =>
        have HR := hidd (fzR_some hfi)
        have hfr := fsR_yes (N := N) (bs := bs) (by omega) hsz hfi
        rw [hfr] at hFS
        have hne : fzS N bs zs d ≠ [] := by
          have := List.find?_some hfi
          simpa using this
        have ho : (fzS N bs zs d).Pairwise (· > ·) ∧ ∀ q ∈ fzS N bs zs d, q < 17 := foS_ok (by omega)
        have hP := fun W hW h0 => points47 (fzS N bs zs d) ho.1 ho.2 W hW h0
        have hx0 : bitS (fzS N bs zs d) ≠ 0 := fun e => hne (bitS_zero.1 e)
        have hle : (fzS N bs zs d).length = (rv (fzS N bs zs d)).length := (rv_len _).symm
        rw [hle] at hP
        obtain ⟨Z, hZ⟩ : ∃ Z, Z = rv (fzS N bs zs d) := ⟨_, rfl⟩
        obtain ⟨X, hX⟩ : ∃ X, X = bitS (fzS N bs zs d) := ⟨_, rfl⟩
        rw [← hZ] at HR
        rw [← hX] at hFS hx0
        rw [← hX, ← hZ] at hP
        have HP := hidd hP
        have HFS := hidd hFS
        have hXI : ((X : Int) == 0) = false := by simp; omega
        clear hFS hfr hfi hi hc0 hok hlk hg hs hlK hl hsz hP ho hne hle hX hZ hx0
        go_enter Tryd.func16, Tryd.ntmps16
        go_wp2_with (refine wpList_load_row rfl 28 (.tmp 2) rfl w.heap.size rfl 28 _ (0,0) _ (Blk.new _ _ _ _ rfl) Tryd.underlying28 rfl HS.out ?_)
        refine (implIs_any (N : Int) (K : Int) bs hb _).mono ?_
        rintro e w1 ⟨rfl, hb1⟩
        rw [HI.out]
        have B1 := ((Blk.new w (ccells (N : Int) (K : Int) bs).toArray 28 _ rfl).below hb1 (by simp))
        have c1 := B1.cell HC1.out
        have G := hidd (And.intro B1 (((Below.refl w.heap.size w).alloc (Nat.le_refl _) (.cells (ccells (N : Int) (K : Int) bs).toArray 28)).trans (hb1.mono (by simp))))
        have HZ := hidd (HSZ.out _ (HSL.out.below G.out.2 (Nat.le_refl _)))
        have HF := hidd (HFS.out w1 (HSL.out.below G.out.2 (Nat.le_refl _)))
        clear hb1 B1
        go_wp2_with (first | (go_at_call 45; refine HZ.out.mono ?_; rintro e w' ⟨rfl, rfl⟩; rw [HOK.out]) | refine wpList_load_row rfl 28 (.tmp 2) rfl w.heap.size rfl 28 _ (0,0) _ G.out.1 Tryd.underlying28 rfl HS.out ?_)
        refine HF.out.mono ?_
        rintro e w2 ⟨rfl, hb2⟩
        have R := hidd (G.out.2.trans (hb2.mono G.out.2.size))
        have HT2 := hidd (HT.out.below R.out hw0)
        clear hb2
        go_wp2_with fail
        refine (HP.out _ HT2.out (by have := R.out.size; omega)).mono ?_
        rintro e w3 ⟨a3, cap3, rfl, ho3, hb3⟩
        have R3 := hidd (And.intro (ownL_base ho3 R.out.size) (R.out.trans (hb3.mono R.out.size)))
        clear ho3 hb3
        go_wp2_with fail
        go_ret3
        rw [HR.out]
        exact ⟨a3, cap3, rfl, R3.out.1, R3.out.2⟩
end Go.Proofs.YtkiocedhibeieaaDoor
