/- AvoidsSizes: the program's own text, its end. -/
import Derived.Test.YtldlobpjmiacgaaAvi
namespace Go.Proofs.Ytldlobpjmiacgaa
set_option linter.unusedVariables false
set_option linter.unusedSimpArgs false
open Go Go.RowKit Go.Shelf
attribute [local go_sem] Oper.semAt_some
set_option maxRecDepth 100000 in
set_option maxHeartbeats 2000000 in
theorem impl15a (n k : Int) (bs : List Nat) (hb : Bys bs) (zs : List Int) (a : Option Addr) (cap : Nat) (w : World) (hs : SlI w a zs) (hl : zs.length ≤ 1048576) (hcap : zs.length ≤ cap) :
    Calls Try.prog 12 #[.agg (ccells n k bs).toArray, .slice a zs.length cap] w fun e w' => e = .returned (.tuple #[.bool (avB n k bs zs), .int .i64 (szCode n k bs zs)]) ∧ Below w.heap.size w w' := by
  have HS := hidd (size_c26 n k hb)
  have HC1 := hidd (show (ccells n k bs).toArray[1]? = some (.int .i64 k) from rfl)
  have HSL := hidd hs
  have HSZ := hidd (fun W h => sizes30 k zs a cap W h hl)
  cases hi : isCol n k bs with
  | false =>
    have hc1 := szCode_1 (zs := zs) hi
    have hav : avB n k bs zs = false := by unfold avB; rw [hc1]; rfl
    rw [hav, hc1]
    have HI := hidd hi
    clear hi hc1 hav hs
    go_enter Try.func12, Try.ntmps12
    go_wp2_with (refine wpList_load_row rfl 28 (.tmp 2) rfl w.heap.size rfl 28 _ (0,0) _ (Blk.new _ _ _ _ rfl) Try.underlying28 rfl HS.out ?_)
    refine (implIs_any n k bs hb _).mono ?_
    rintro e w1 ⟨rfl, hb1⟩
    rw [HI.out]
    have G := hidd (((Below.refl w.heap.size w).alloc (Nat.le_refl _) (.cells (ccells n k bs).toArray 28)).trans (hb1.mono (by simp)))
    clear hb1
    go_wp2_with fail
    go_ret2
    exact ⟨rfl, G.out⟩
  | true =>
    obtain ⟨n1, n2, k1, k2⟩ := isCol_bd hi
    have HI := hidd hi
    cases hok : szOk k zs with
    | false =>
      have hc2 := szCode_2 hi hok
      have hav : avB n k bs zs = false := by unfold avB; rw [hc2]; rfl
      rw [hav, hc2]
      have HOK := hidd hok
      clear hi hc2 hav hs hok
      go_enter Try.func12, Try.ntmps12
      go_wp2_with (refine wpList_load_row rfl 28 (.tmp 2) rfl w.heap.size rfl 28 _ (0,0) _ (Blk.new _ _ _ _ rfl) Try.underlying28 rfl HS.out ?_)
      refine (implIs_any n k bs hb _).mono ?_
      rintro e w1 ⟨rfl, hb1⟩
      rw [HI.out]
      have c1 := ((Blk.new w (ccells n k bs).toArray 28 _ rfl).below hb1 (by simp)).cell HC1.out
      have G := hidd (((Below.refl w.heap.size w).alloc (Nat.le_refl _) (.cells (ccells n k bs).toArray 28)).trans (hb1.mono (by simp)))
      have HZ := hidd (HSZ.out _ (HSL.out.below G.out (Nat.le_refl _)))
      clear hb1
      go_wp2_with (go_at_call 17; refine HZ.out.mono ?_; rintro e w' ⟨rfl, rfl⟩; rw [HOK.out])
      go_ret2
      exact ⟨rfl, G.out⟩
    | true =>
      have hc0 := szCode_0 hi hok
      have HOK := hidd hok
      unfold szOk at hok
      rw [Bool.and_eq_true] at hok
      have hlk := of_decide_eq_true hok.1
      obtain ⟨N, rfl⟩ := Int.eq_ofNat_of_zero_le (show 0 ≤ n by omega)
      obtain ⟨K, rfl⟩ := Int.eq_ofNat_of_zero_le (show 0 ≤ k by omega)
      have hlK : zs.length = K := by omega
      have hsz : szP zs K = true := by rw [← hlK]; exact hok.2
      have hav : avB (N : Int) (K : Int) bs zs = avP N bs zs K := by unfold avB; rw [hc0]; simp
      rw [hav, hc0]
      have HFS := hidd (fun W h => firsts31 N K bs hb zs a cap W h hlK (by omega) (by omega) (by omega))
      have HFA := hidd (fsR_av (N := N) (bs := bs) (by omega) hsz)
      rw [hlK] at HSZ ⊢
      clear hi hc0 hok hlk hav hs hlK hl hsz
      go_enter Try.func12, Try.ntmps12
      go_wp2_with (refine wpList_load_row rfl 28 (.tmp 2) rfl w.heap.size rfl 28 _ (0,0) _ (Blk.new _ _ _ _ rfl) Try.underlying28 rfl HS.out ?_)
      refine (implIs_any (N : Int) (K : Int) bs hb _).mono ?_
      rintro e w1 ⟨rfl, hb1⟩
      rw [HI.out]
      have B1 := ((Blk.new w (ccells (N : Int) (K : Int) bs).toArray 28 _ rfl).below hb1 (by simp))
      have c1 := B1.cell HC1.out
      have G := hidd (And.intro B1 (((Below.refl w.heap.size w).alloc (Nat.le_refl _) (.cells (ccells (N : Int) (K : Int) bs).toArray 28)).trans (hb1.mono (by simp))))
      have HZ := hidd (HSZ.out _ (HSL.out.below G.out.2 (Nat.le_refl _)))
      have HF := hidd (HFS.out w1 (HSL.out.below G.out.2 (Nat.le_refl _)))
      clear hb1 B1
      go_wp2_with (first | (go_at_call 17; refine HZ.out.mono ?_; rintro e w' ⟨rfl, rfl⟩; rw [HOK.out]) | refine wpList_load_row rfl 28 (.tmp 2) rfl w.heap.size rfl 28 _ (0,0) _ G.out.1 Try.underlying28 rfl HS.out ?_)
      refine HF.out.mono ?_
      rintro e w2 ⟨rfl, hb2⟩
      have R := hidd (G.out.2.trans (hb2.mono G.out.2.size))
      clear hb2
      go_wp2_with fail
      go_ret2
      exact ⟨by rw [← HFA.out]; rfl, R.out⟩
end Go.Proofs.Ytldlobpjmiacgaa
