/- The code of a colouring, a colour and points. -/
import Derived.Test.YtpjegmmichjlbaaTests
import Derived.Test.YtpjegmmichjlbaaConv
namespace Go.Proofs.Ytpjegmmichjlbaa
open Go Go.RowKit
theorem size_c26 (n k : Int) {bs : List Nat} (hb : Bys bs) : (Try.prog.info? 29).map (·.size) = some (ccells n k bs).toArray.size := by rw [size26]; simp [ccells_len, hb.len]
theorem size_c24 (n k : Int) {bs : List Nat} (hb : Bys bs) : (Try.prog.info? 27).map (·.size) = some (ccells n k bs).toArray.size := by rw [size24]; simp [ccells_len, hb.len]
theorem isCol_bd {n k : Int} {bs : List Nat} (h : isCol n k bs = true) : 1 ≤ n ∧ n ≤ 17 ∧ 1 ≤ k ∧ k ≤ 4 := shape_bd (isCol_good h).1
def given (n k : Int) (bs : List Nat) (c : Int) (zs : List Int) : Int := if isCol n k bs then (if belowB c k && allB zs n then 0 else 2) else 1
theorem given_1 {n k : Int} {bs : List Nat} {c : Int} {zs : List Int} (h : isCol n k bs = false) : given n k bs c zs = 1 := by simp [given, h]
theorem given_2 {n k : Int} {bs : List Nat} {c : Int} {zs : List Int} (h : isCol n k bs = true) (h2 : (belowB c k && allB zs n) = false) : given n k bs c zs = 2 := by
  unfold given; rw [if_pos h, h2]; rfl
theorem given_0 {n k : Int} {bs : List Nat} {c : Int} {zs : List Int} (h : isCol n k bs = true) (h1 : belowB c k = true) (h2 : allB zs n = true) : given n k bs c zs = 0 := by simp [given, h, h1, h2]
set_option maxRecDepth 100000 in
set_option maxHeartbeats 400000 in
theorem given56 (n k : Int) (bs : List Nat) (hb : Bys bs) (c : Int) (zs : List Int) (a : Option Addr) (cap : Nat) (w : World) (hs : SlI w a zs) (hl : zs.length ≤ 9223372036854775807) :
    Calls Try.prog 47 #[.agg (ccells n k bs).toArray, .int .i64 c, .slice a zs.length cap] w fun e w' => e = .returned (.int .i64 (given n k bs c zs)) ∧ Below w.heap.size w w' := by
  have HS := hidd (size_c26 n k hb)
  cases hi : isCol n k bs with
  | false =>
    have HI := hidd hi
    have H := hidd (given_1 (c := c) (zs := zs) hi)
    clear hi
    go_enter Try.func47, Try.ntmps47
    go_wp2_with (refine wpList_load_row rfl 29 (.tmp 3) rfl w.heap.size rfl 29 _ (0,0) _ (Blk.new _ _ _ _ rfl) Try.underlying29 rfl HS.out ?_)
    refine (l01Is_any n k bs hb _).mono ?_
    rintro e w1 ⟨rfl, hb1⟩
    rw [HI.out]
    go_wp2
    go_ret
    exact ⟨by rw [H.out]; rfl, ((Below.refl _ _).alloc (Nat.le_refl _) _).trans (hb1.mono (by simp))⟩
  | true =>
    have HI := hidd hi
    obtain ⟨n1, n2, k1, k2⟩ := isCol_bd hi
    have hc0 : (ccells n k bs).toArray[0]? = some (.int .i64 n) := rfl
    have hc1 : (ccells n k bs).toArray[1]? = some (.int .i64 k) := rfl
    have HC := hidd (And.intro hc0 hc1)
    clear hc0 hc1
    cases h1 : belowB c k with
    | false =>
      have H := hidd (given_2 (zs := zs) (c := c) hi (by rw [h1]; rfl))
      have H1 := hidd (show inB c 0 (k - 1) = false from h1)
      clear h1 hi
      go_enter Try.func47, Try.ntmps47
      go_wp2_with (refine wpList_load_row rfl 29 (.tmp 3) rfl w.heap.size rfl 29 _ (0,0) _ (Blk.new _ _ _ _ rfl) Try.underlying29 rfl HS.out ?_)
      refine (l01Is_any n k bs hb _).mono ?_
      rintro e w1 ⟨rfl, hb1⟩
      rw [HI.out]
      have hB := (Blk.new w (ccells n k bs).toArray 29 _ rfl).below hb1 (by simp)
      have g0 := hB.cell HC.out.1
      have g1 := hB.cell HC.out.2
      have G := hidd (((Below.refl w.heap.size w).alloc (Nat.le_refl _) _).trans (hb1.mono (by simp)))
      clear hb1 hB
      go_wp2_with (go_at_call 39; refine (in49 _ _ _ _).mono ?_; rintro e w' ⟨rfl, rfl⟩; rw [H1.out])
      go_ret
      exact ⟨by rw [H.out]; rfl, G.out⟩
    | true =>
      have H1 := hidd (show inB c 0 (k - 1) = true from h1)
      cases h2 : allB zs n with
      | false =>
        have H := hidd (given_2 (zs := zs) (c := c) hi (by rw [h2, Bool.and_false]))
        have H2 := hidd h2
        clear h1 hi h2
        go_enter Try.func47, Try.ntmps47
        go_wp2_with (refine wpList_load_row rfl 29 (.tmp 3) rfl w.heap.size rfl 29 _ (0,0) _ (Blk.new _ _ _ _ rfl) Try.underlying29 rfl HS.out ?_)
        refine (l01Is_any n k bs hb _).mono ?_
        rintro e w1 ⟨rfl, hb1⟩
        rw [HI.out]
        have hB := (Blk.new w (ccells n k bs).toArray 29 _ rfl).below hb1 (by simp)
        have g0 := hB.cell HC.out.1
        have g1 := hB.cell HC.out.2
        have G := hidd (((Below.refl w.heap.size w).alloc (Nat.le_refl _) _).trans (hb1.mono (by simp)))
        have hs1 := hidd (hs.below G.out (Nat.le_refl _))
        clear hb1 hB hs
        go_wp2_with (first | (go_at_call 39; refine (in49 _ _ _ _).mono ?_; rintro e w' ⟨rfl, rfl⟩; rw [H1.out]) | (go_at_call 78; refine (all50 _ _ _ _ _ hs1.out hl (by omega) (by omega)).mono ?_; rintro e w' ⟨rfl, rfl⟩; rw [H2.out]))
        go_ret
        exact ⟨by rw [H.out]; rfl, G.out⟩
      | true =>
        have H := hidd (given_0 (zs := zs) (c := c) hi h1 h2)
        have H2 := hidd h2
        clear h1 hi h2
        go_enter Try.func47, Try.ntmps47
        go_wp2_with (refine wpList_load_row rfl 29 (.tmp 3) rfl w.heap.size rfl 29 _ (0,0) _ (Blk.new _ _ _ _ rfl) Try.underlying29 rfl HS.out ?_)
        refine (l01Is_any n k bs hb _).mono ?_
        rintro e w1 ⟨rfl, hb1⟩
        rw [HI.out]
        have hB := (Blk.new w (ccells n k bs).toArray 29 _ rfl).below hb1 (by simp)
        have g0 := hB.cell HC.out.1
        have g1 := hB.cell HC.out.2
        have G := hidd (((Below.refl w.heap.size w).alloc (Nat.le_refl _) _).trans (hb1.mono (by simp)))
        have hs1 := hidd (hs.below G.out (Nat.le_refl _))
        clear hb1 hB hs
        go_wp2_with (first | (go_at_call 39; refine (in49 _ _ _ _).mono ?_; rintro e w' ⟨rfl, rfl⟩; rw [H1.out]) | (go_at_call 78; refine (all50 _ _ _ _ _ hs1.out hl (by omega) (by omega)).mono ?_; rintro e w' ⟨rfl, rfl⟩; rw [H2.out]))
        go_ret
        exact ⟨by rw [H.out]; rfl, G.out⟩
end Go.Proofs.Ytpjegmmichjlbaa
