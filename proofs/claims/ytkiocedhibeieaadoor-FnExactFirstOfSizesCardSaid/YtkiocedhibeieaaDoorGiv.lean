/- Tests that the first texts lack in this seat, and the code of a colouring, a colour and points. -/
import Derived.Test.YtkiocedhibeieaaDoorGa
namespace Go.Proofs.YtkiocedhibeieaaDoor
set_option linter.unusedVariables false
set_option linter.unusedSimpArgs false
open Go Go.RowKit
theorem below61 (n m : Int) (w : World) : Calls Tryd.prog 50 #[.int .i64 n, .int .i64 m] w fun e w' => e = .returned (.bool (belowB n m)) ∧ w = w' := by
  by_cases h1 : 0 ≤ n
  · by_cases h2 : n < m
    · have H := hidd (show belowB n m = true from inB_yes h1 (by omega))
      go_enter Tryd.func50, Tryd.ntmps50
      go_wp2
      go_ret
      exact ⟨by rw [H.out]; rfl, rfl⟩
    · have H := hidd (show belowB n m = false from inB_no (by omega))
      have hd : decide (n < m) = false := by simpa using h2
      clear h2
      go_enter Tryd.func50, Tryd.ntmps50
      go_wp2
      go_ret
      exact ⟨by rw [H.out]; rfl, rfl⟩
  · have H := hidd (show belowB n m = false from inB_no (by omega))
    have hd : decide (0 ≤ n) = false := by simpa using h1
    clear h1
    go_enter Tryd.func50, Tryd.ntmps50
    go_wp2
    go_ret
    exact ⟨by rw [H.out]; rfl, rfl⟩
set_option maxRecDepth 100000 in
set_option maxHeartbeats 400000 in
theorem all50 (zs : List Int) (a : Option Addr) (cap : Nat) (k : Int) (w : World) (hs : SlI w a zs) (hl : zs.length ≤ 9223372036854775807) (hk1 : 0 ≤ k) (hk2 : k ≤ 9223372036854775807) :
    Calls Tryd.prog 76 #[.slice a zs.length cap, .int .i64 k] w fun e w' => e = .returned (.bool (allB zs k)) ∧ w = w' := by
  go_enter Tryd.func76, Tryd.ntmps76
  go_wp2_with fail
  go_loop [5] (fun i => ∃ j : Nat, j ≤ zs.length ∧ i = .int .i64 j ∧ ∀ m, m < j → belowB (zs.getD m 0) k = true) (fun i => zs.length - (intOf i).toNat)
  case atStart => exact ⟨0, by omega, rfl, fun m hm => absurd hm (by omega)⟩
  case round =>
    obtain ⟨j, hj, rfl, hall⟩ := hrel
    have HA := hidd hall
    clear hall
    by_cases hlt : j < zs.length
    · rcases hs with hs | ⟨b, off, rfl, hc⟩
      · subst hs; simp at hlt
      · have hcj := hc j hlt
        obtain ⟨z, hz⟩ : ∃ z, z = zs.getD j 0 := ⟨_, rfl⟩
        rw [← hz] at hcj
        have HZ := hidd hz
        have HC := hidd hc
        clear hz hc
        cases hb : belowB z k with
        | true =>
          have HB := hidd (show inB z 0 (k - 1) = true from hb)
          clear hb
          go_wp2_with (go_at_call 52; refine (in49 _ _ _ _).mono ?_; rintro e w' ⟨rfl, rfl⟩; rw [HB.out])
          go_round
          case rel => exact ⟨j + 1, by omega, by go_num, fun m hm => by
            by_cases e : m = j
            · subst e; rw [← HZ.out]; exact HB.out
            · exact HA.out m (by omega)⟩
          case measure => simp [intOf]; omega
        | false =>
          have HB := hidd (show inB z 0 (k - 1) = false from hb)
          have H := hidd (allB_no hlt (by rw [← HZ.out]; exact hb))
          clear hb
          go_wp2_with (go_at_call 52; refine (in49 _ _ _ _).mono ?_; rintro e w' ⟨rfl, rfl⟩; rw [HB.out])
          go_ret
          exact ⟨by rw [H.out]; rfl, rfl⟩
    · have hje : j = zs.length := by omega
      subst hje
      have H := hidd (allB_yes HA.out)
      go_wp2_with fail
      go_ret
      exact ⟨by rw [H.out]; rfl, rfl⟩
set_option maxRecDepth 100000 in
set_option maxHeartbeats 400000 in
theorem given56 (n k : Int) (bs : List Nat) (hb : Bys bs) (c : Int) (zs : List Int) (a : Option Addr) (cap : Nat) (w : World) (hs : SlI w a zs) (hl : zs.length ≤ 9223372036854775807) :
    Calls Tryd.prog 48 #[.agg (ccells n k bs).toArray, .int .i64 c, .slice a zs.length cap] w fun e w' => e = .returned (.int .i64 (given n k bs c zs)) ∧ Below w.heap.size w w' := by
  have HS := hidd (size_c26 n k hb)
  cases hi : isCol n k bs with
  | false =>
    have HI := hidd hi
    have H := hidd (given_1 (c := c) (zs := zs) hi)
    clear hi
    go_enter Tryd.func48, Tryd.ntmps48
    go_wp2_with (refine wpList_load_row rfl 28 (.tmp 3) rfl w.heap.size rfl 28 _ (0,0) _ (Blk.new _ _ _ _ rfl) Tryd.underlying28 rfl HS.out ?_)
    refine (l01Is_any n k bs hb _).mono ?_
    rintro e w1 ⟨rfl, hb1⟩
    rw [HI.out]
    go_wp2
    go_ret
    exact ⟨by rw [H.out]; rfl, ((Below.refl _ _).alloc (Nat.le_refl _) _).trans (hb1.mono (by simp))⟩
  | true =>
    have HI := hidd hi
    obtain ⟨n1, n2, k1, k2⟩ := isCol_bd hi
    have hc0 : (ccells n k bs).toArray[0]? = some (.int .i64 n) := rfl
    have hc1 : (ccells n k bs).toArray[1]? = some (.int .i64 k) := rfl
    have HC := hidd (And.intro hc0 hc1)
    clear hc0 hc1
    cases h1 : belowB c k with
    | false =>
      have H := hidd (given_2 (zs := zs) (c := c) hi (by rw [h1]; rfl))
      have H1 := hidd (show inB c 0 (k - 1) = false from h1)
      clear h1 hi
      go_enter Tryd.func48, Tryd.ntmps48
      go_wp2_with (refine wpList_load_row rfl 28 (.tmp 3) rfl w.heap.size rfl 28 _ (0,0) _ (Blk.new _ _ _ _ rfl) Tryd.underlying28 rfl HS.out ?_)
      refine (l01Is_any n k bs hb _).mono ?_
      rintro e w1 ⟨rfl, hb1⟩
      rw [HI.out]
      have hB := (Blk.new w (ccells n k bs).toArray 28 _ rfl).below hb1 (by simp)
      have g0 := hB.cell HC.out.1
      have g1 := hB.cell HC.out.2
      have G := hidd (((Below.refl w.heap.size w).alloc (Nat.le_refl _) _).trans (hb1.mono (by simp)))
      clear hb1 hB
      go_wp2_with (go_at_call 52; refine (in49 _ _ _ _).mono ?_; rintro e w' ⟨rfl, rfl⟩; rw [H1.out])
      go_ret
      exact ⟨by rw [H.out]; rfl, G.out⟩
    | true =>
      have H1 := hidd (show inB c 0 (k - 1) = true from h1)
      cases h2 : allB zs n with
      | false =>
        have H := hidd (given_2 (zs := zs) (c := c) hi (by rw [h2, Bool.and_false]))
        have H2 := hidd h2
        clear h1 hi h2
        go_enter Tryd.func48, Tryd.ntmps48
        go_wp2_with (refine wpList_load_row rfl 28 (.tmp 3) rfl w.heap.size rfl 28 _ (0,0) _ (Blk.new _ _ _ _ rfl) Tryd.underlying28 rfl HS.out ?_)
        refine (l01Is_any n k bs hb _).mono ?_
        rintro e w1 ⟨rfl, hb1⟩
        rw [HI.out]
        have hB := (Blk.new w (ccells n k bs).toArray 28 _ rfl).below hb1 (by simp)
        have g0 := hB.cell HC.out.1
        have g1 := hB.cell HC.out.2
        have G := hidd (((Below.refl w.heap.size w).alloc (Nat.le_refl _) _).trans (hb1.mono (by simp)))
        have hs1 := hidd (hs.below G.out (Nat.le_refl _))
        clear hb1 hB hs
        go_wp2_with (first | (go_at_call 52; refine (in49 _ _ _ _).mono ?_; rintro e w' ⟨rfl, rfl⟩; rw [H1.out]) | (go_at_call 76; refine (all50 _ _ _ _ _ hs1.out hl (by omega) (by omega)).mono ?_; rintro e w' ⟨rfl, rfl⟩; rw [H2.out]))
        go_ret
        exact ⟨by rw [H.out]; rfl, G.out⟩
      | true =>
        have H := hidd (given_0 (zs := zs) (c := c) hi h1 h2)
        have H2 := hidd h2
        clear h1 hi h2
        go_enter Tryd.func48, Tryd.ntmps48
        go_wp2_with (refine wpList_load_row rfl 28 (.tmp 3) rfl w.heap.size rfl 28 _ (0,0) _ (Blk.new _ _ _ _ rfl) Tryd.underlying28 rfl HS.out ?_)
        refine (l01Is_any n k bs hb _).mono ?_
        rintro e w1 ⟨rfl, hb1⟩
        rw [HI.out]
        have hB := (Blk.new w (ccells n k bs).toArray 28 _ rfl).below hb1 (by simp)
        have g0 := hB.cell HC.out.1
        have g1 := hB.cell HC.out.2
        have G := hidd (((Below.refl w.heap.size w).alloc (Nat.le_refl _) _).trans (hb1.mono (by simp)))
        have hs1 := hidd (hs.below G.out (Nat.le_refl _))
        clear hb1 hB hs
        go_wp2_with (first | (go_at_call 52; refine (in49 _ _ _ _).mono ?_; rintro e w' ⟨rfl, rfl⟩; rw [H1.out]) | (go_at_call 76; refine (all50 _ _ _ _ _ hs1.out hl (by omega) (by omega)).mono ?_; rintro e w' ⟨rfl, rfl⟩; rw [H2.out]))
        go_ret
        exact ⟨by rw [H.out]; rfl, G.out⟩
end Go.Proofs.YtkiocedhibeieaaDoor
