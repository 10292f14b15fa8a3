/- The model's tests of what is given: a colouring, a colour, points; a set of points. -/
import Derived.Test.YtljlbonoohhhdaaGc
namespace Go.Proofs.Ytljlbonoohhhdaa
set_option linter.unusedVariables false
set_option linter.unusedSimpArgs false
open Go Go.RowKit Go.Shelf
set_option maxRecDepth 100000 in
set_option maxHeartbeats 400000 in
theorem given56 (n k : Int) (bs : List Nat) (hb : Bys bs) (c : Int) (zs : List Int) (a : Option Addr) (cap : Nat) (w : World) (hs : SlI w a zs) (hl : zs.length ≤ 9223372036854775807) :
    Calls Try.prog 45 #[.agg (ccells n k bs).toArray, .int .i64 c, .slice a zs.length cap] w fun e w' => e = .returned (.int .i64 (given n k bs c zs)) ∧ Below w.heap.size w w' := by
  have HS := hidd (size_c26 n k hb)
  cases hi : isCol n k bs with
  | false =>
    have HI := hidd hi
    have H := hidd (given_1 (c := c) (zs := zs) hi)
    clear hi
    go_enter Try.func45, Try.ntmps45
    go_wp2_with (refine wpList_load_row rfl 25 (.tmp 3) rfl w.heap.size rfl 25 _ (0,0) _ (Blk.new _ _ _ _ rfl) Try.underlying25 rfl HS.out ?_)
    refine (l01Is_any n k bs hb _).mono ?_
    rintro e w1 ⟨rfl, hb1⟩
    rw [HI.out]
    go_wp2
    go_ret
    exact ⟨by rw [H.out]; rfl, ((Below.refl _ _).alloc (Nat.le_refl _) _).trans (hb1.mono (by simp))⟩
  | true =>
    have HI := hidd hi
    obtain ⟨n1, n2, k1, k2⟩ := isCol_bd hi
    have hc0 : (ccells n k bs).toArray[0]? = some (.int .i64 n) := rfl
    have hc1 : (ccells n k bs).toArray[1]? = some (.int .i64 k) := rfl
    have HC := hidd (And.intro hc0 hc1)
    clear hc0 hc1
    cases h1 : belowB c k with
    | false =>
      have H := hidd (given_2 (zs := zs) (c := c) hi (by rw [h1]; rfl))
      have H1 := hidd (show inB c 0 (k - 1) = false from h1)
      clear h1 hi
      go_enter Try.func45, Try.ntmps45
      go_wp2_with (refine wpList_load_row rfl 25 (.tmp 3) rfl w.heap.size rfl 25 _ (0,0) _ (Blk.new _ _ _ _ rfl) Try.underlying25 rfl HS.out ?_)
      refine (l01Is_any n k bs hb _).mono ?_
      rintro e w1 ⟨rfl, hb1⟩
      rw [HI.out]
      have hB := (Blk.new w (ccells n k bs).toArray 25 _ rfl).below hb1 (by simp)
      have g0 := hB.cell HC.out.1
      have g1 := hB.cell HC.out.2
      have G := hidd (((Below.refl w.heap.size w).alloc (Nat.le_refl _) _).trans (hb1.mono (by simp)))
      clear hb1 hB
      go_wp2_with (go_at_call 22; refine (in49 _ _ _ _).mono ?_; rintro e w' ⟨rfl, rfl⟩; rw [H1.out])
      go_ret
      exact ⟨by rw [H.out]; rfl, G.out⟩
    | true =>
      have H1 := hidd (show inB c 0 (k - 1) = true from h1)
      cases h2 : allB zs n with
      | false =>
        have H := hidd (given_2 (zs := zs) (c := c) hi (by rw [h2, Bool.and_false]))
        have H2 := hidd h2
        clear h1 hi h2
        go_enter Try.func45, Try.ntmps45
        go_wp2_with (refine wpList_load_row rfl 25 (.tmp 3) rfl w.heap.size rfl 25 _ (0,0) _ (Blk.new _ _ _ _ rfl) Try.underlying25 rfl HS.out ?_)
        refine (l01Is_any n k bs hb _).mono ?_
        rintro e w1 ⟨rfl, hb1⟩
        rw [HI.out]
        have hB := (Blk.new w (ccells n k bs).toArray 25 _ rfl).below hb1 (by simp)
        have g0 := hB.cell HC.out.1
        have g1 := hB.cell HC.out.2
        have G := hidd (((Below.refl w.heap.size w).alloc (Nat.le_refl _) _).trans (hb1.mono (by simp)))
        have hs1 := hidd (hs.below G.out (Nat.le_refl _))
        clear hb1 hB hs
        go_wp2_with (first | (go_at_call 22; refine (in49 _ _ _ _).mono ?_; rintro e w' ⟨rfl, rfl⟩; rw [H1.out]) | (go_at_call 59; refine (all50 _ _ _ _ _ hs1.out hl (by omega) (by omega)).mono ?_; rintro e w' ⟨rfl, rfl⟩; rw [H2.out]))
        go_ret
        exact ⟨by rw [H.out]; rfl, G.out⟩
      | true =>
        have H := hidd (given_0 (zs := zs) (c := c) hi h1 h2)
        have H2 := hidd h2
        clear h1 hi h2
        go_enter Try.func45, Try.ntmps45
        go_wp2_with (refine wpList_load_row rfl 25 (.tmp 3) rfl w.heap.size rfl 25 _ (0,0) _ (Blk.new _ _ _ _ rfl) Try.underlying25 rfl HS.out ?_)
        refine (l01Is_any n k bs hb _).mono ?_
        rintro e w1 ⟨rfl, hb1⟩
        rw [HI.out]
        have hB := (Blk.new w (ccells n k bs).toArray 25 _ rfl).below hb1 (by simp)
        have g0 := hB.cell HC.out.1
        have g1 := hB.cell HC.out.2
        have G := hidd (((Below.refl w.heap.size w).alloc (Nat.le_refl _) _).trans (hb1.mono (by simp)))
        have hs1 := hidd (hs.below G.out (Nat.le_refl _))
        clear hb1 hB hs
        go_wp2_with (first | (go_at_call 22; refine (in49 _ _ _ _).mono ?_; rintro e w' ⟨rfl, rfl⟩; rw [H1.out]) | (go_at_call 59; refine (all50 _ _ _ _ _ hs1.out hl (by omega) (by omega)).mono ?_; rintro e w' ⟨rfl, rfl⟩; rw [H2.out]))
        go_ret
        exact ⟨by rw [H.out]; rfl, G.out⟩
set_option maxRecDepth 100000 in
set_option maxHeartbeats 1000000 in
theorem set67 (n k : Int) (bs : List Nat) (hb : Bys bs) (zs : List Int) (a : Option Addr) (cap : Nat) (w : World) (hs : SlI w a zs) (hl : zs.length ≤ 9223372036854775807) :
    Calls Try.prog 29 #[.agg (ccells n k bs).toArray, .slice a zs.length cap] w fun e w' => e = .returned (.int .i64 (setCode n k bs zs)) ∧ Below w.heap.size w w' := by
  have HS := hidd (size_c26 n k hb)
  have hs1 := hidd (hs.below ((Below.refl w.heap.size w).alloc (Nat.le_refl _) (.cells (ccells n k bs).toArray 25)) (Nat.le_refl _))
  have HSL := hidd hs
  obtain ⟨g, hg⟩ : ∃ g, g = given n k bs 0 zs := ⟨_, rfl⟩
  have HG := hidd hg.symm
  by_cases h0 : g = 0
  · have hq : (g != 0) = false := by simpa using h0
    have H := hidd (show setCode n k bs zs = (if ascB zs = true then 0 else 2) by unfold setCode; rw [if_pos (hg.symm.trans h0)])
    clear h0 hg hs
    go_enter Try.func29, Try.ntmps29
    go_wp2_with (refine wpList_load_row rfl 25 (.tmp 2) rfl w.heap.size rfl 25 _ (0,0) _ (Blk.new _ _ _ _ rfl) Try.underlying25 rfl HS.out ?_)
    refine (given56 n k bs hb 0 zs a cap _ hs1.out hl).mono ?_
    rintro e w1 ⟨rfl, hb1⟩
    rw [HG.out]
    have G := hidd (((Below.refl w.heap.size w).alloc (Nat.le_refl _) (.cells (ccells n k bs).toArray 25)).trans (hb1.mono (by simp)))
    clear hb1
    go_wp2_with fail
    go_loopw [6] (fun i wr => ∃ j : Nat, (j + 1 ≤ zs.length ∨ j = 0) ∧ i = .int .i64 (j + 1 : Nat) ∧ Asc zs j ∧ RelS zs a w wr) (fun i _ => zs.length - (intOf i).toNat)
    case atStart => exact ⟨0, .inr rfl, rfl, fun _ h => absurd h (by omega), HSL.out.below G.out (Nat.le_refl _), G.out⟩
    case round =>
      obtain ⟨j, hj, rfl, hasc, HR⟩ := hrel
      by_cases hlt : j + 1 < zs.length
      · rcases HR.1 with hz | ⟨x, o, ha, hc⟩
        · subst hz; simp at hlt
        · subst ha
          have hck := hc (j + 1) hlt
          have hdk := hc j (by omega)
          by_cases hup : zs.getD j 0 < zs.getD (j + 1) 0
          · have hge : decide (zs.getD (j + 1) 0 ≤ zs.getD j 0) = false := by rw [decide_eq_false_iff_not]; omega
            obtain ⟨y, hy⟩ : ∃ y, y = zs.getD j 0 := ⟨_, rfl⟩
            obtain ⟨z, hz⟩ : ∃ z, z = zs.getD (j + 1) 0 := ⟨_, rfl⟩
            rw [← hz] at hck hge
            rw [← hy] at hdk hge
            have K := hidd HR
            have A := hidd (show Asc zs (j + 1) from fun i hi h2 => by
              by_cases he : i = j
              · subst he; exact hup
              · exact hasc i (by omega) h2)
            clear hz hy hc HR hasc hup
            go_wp2_with fail
            go_quiet (fail)
            go_wp2
            go_roundw
            case rel => exact ⟨j + 1, by omega, by go_num, A.out, K.out.1.below (below_drewN (Below.refl _ _) _) (Nat.le_refl _), below_drewN K.out.2 _⟩
            case measure => simp [intOf]; omega
          · have hge : decide (zs.getD (j + 1) 0 ≤ zs.getD j 0) = true := by rw [decide_eq_true_iff]; omega
            have HN := hidd (show setCode n k bs zs = 2 by rw [H.out, ascB_no hlt hup]; rfl)
            obtain ⟨y, hy⟩ : ∃ y, y = zs.getD j 0 := ⟨_, rfl⟩
            obtain ⟨z, hz⟩ : ∃ z, z = zs.getD (j + 1) 0 := ⟨_, rfl⟩
            rw [← hz] at hck hge
            rw [← hy] at hdk hge
            have K := hidd HR
            clear hz hy hc HR hasc hup
            go_wp2_with fail
            go_quiet (fail)
            go_wp2
            go_ret
            exact ⟨by rw [HN.out]; rfl, below_drewN K.out.2 _⟩
      · have HN := hidd (show setCode n k bs zs = 0 by rw [H.out, ascB_yes hasc (by omega)]; rfl)
        have K := hidd HR
        clear hasc HR
        go_wp2_with fail
        go_ret
        exact ⟨by rw [HN.out]; rfl, K.out.2⟩
  · have hq : (g != 0) = true := by rw [bne_iff_ne]; exact h0
    have H := hidd (show setCode n k bs zs = g by unfold setCode; rw [← hg, if_neg h0])
    clear h0 hg hs
    go_enter Try.func29, Try.ntmps29
    go_wp2_with (refine wpList_load_row rfl 25 (.tmp 2) rfl w.heap.size rfl 25 _ (0,0) _ (Blk.new _ _ _ _ rfl) Try.underlying25 rfl HS.out ?_)
    refine (given56 n k bs hb 0 zs a cap _ hs1.out hl).mono ?_
    rintro e w1 ⟨rfl, hb1⟩
    rw [HG.out]
    have G := hidd (((Below.refl w.heap.size w).alloc (Nat.le_refl _) (.cells (ccells n k bs).toArray 25)).trans (hb1.mono (by simp)))
    clear hb1
    go_wp2_with fail
    go_ret
    exact ⟨by rw [H.out]; rfl, G.out⟩
end Go.Proofs.Ytljlbonoohhhdaa
