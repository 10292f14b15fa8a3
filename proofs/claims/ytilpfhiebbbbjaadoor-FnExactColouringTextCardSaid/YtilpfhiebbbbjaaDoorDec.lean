/- Texts of colourings: l01Dec of two digits. -/
import Derived.Test.YtilpfhiebbbbjaaDoorCtx
import Derived.Deep.RegionHeld
import Derived.Deep.RegionHeld2
namespace Go.Proofs.YtilpfhiebbbbjaaDoor
set_option linter.unusedVariables false
set_option linter.unusedSimpArgs false
open Go Go.RowKit
set_option maxRecDepth 100000 in
set_option maxHeartbeats 1000000 in
theorem dec13b (m : Int) (n1 : 0 ≤ m) (n5 : m < 10) (w : World) : Calls Tryd.prog 13 #[.int .i64 (10 + m)] w fun e w' => e = .returned (.string (strOfNums [49, 48 + m])) ∧ Below w.heap.size w w' := by
  have hw : IntKind.u8.wrap (48 + m) = 48 + m := by simp [IntKind.wrap, IntKind.bits, IntKind.signed]; omega
  have hw0 : IntKind.i64.wrap (48 + m) = 48 + m := IntWalk.i64_in _ (by omega)
  have hss : strOfNums [49] ++ strOfNums [48 + m] = strOfNums [49, 48 + m] := str_app _ _
  have hsz : ¬ 9223372036854775807 < (strOfNums [49]).size + (strOfNums [48 + m]).size := by rw [strOfNums_size, strOfNums_size]; simp
  have hq : (10 + m).tdiv 10 = 1 := by rw [Int.tdiv_eq_ediv_of_nonneg (by omega)]; omega
  have hr : (10 + m).tmod 10 = m := by rw [Int.tmod_eq_emod_of_nonneg (by omega)]; omega
  have hcv := fun (w' : World) b (h : w'.cell? ⟨b, 0, none⟩ = some (.int .u8 (48 + m))) => run_convert_bytes_arg (P := Tryd.prog) w' 38 5 Tryd.underlying38 Tryd.underlying5 b 0 1 1 [48 + m] rfl (fun i hi => by
    obtain rfl : i = 0 := by omega
    exact h) 9 Tryd.underlying9
  have HD := hidd (fun w => dec13a 1 (by omega) (by omega) w)
  have HC := hidd hcv
  clear hcv
  go_enter Tryd.func13, Tryd.ntmps13
  go_wp2_with fail
  have hBd : Below w.heap.size w w.drew := (Below.refl _ _).drew
  refine wp_region_held_drew (S := fun w' => Below w.heap.size w w') (by kernel_rfl) ?_ (fun hHeld => ?_)
  · exact hBd
  refine wpAnyH_take (i := 0) (oi := _) (v := ?_) rfl (by kernel_rfl) (by kernel_rfl) (by kernel_rfl) (fun _ _ _ h => h) (Or.inl ⟨by rfl, ?_⟩) (by assumption) ?_
  rotate_left
  · intro wX hSw; (try dsimp only at hSw); go_simp; first | done | with_reducible rfl
  simp only [List.getElem_toArray, List.getElem_cons_succ, List.getElem_cons_zero, Act.put, List.setIfInBounds_toArray, List.set_cons_zero, List.set_cons_succ]
  refine wpAnyH_take (i := 1) (oi := _) (v := ?_) rfl (by kernel_rfl) (by kernel_rfl) (by kernel_rfl) (fun _ _ _ h => h) (Or.inl ⟨by rfl, ?_⟩) (by assumption) ?_
  rotate_left
  · intro wX hSw; (try dsimp only at hSw); go_simp; first | done | with_reducible rfl
  simp only [List.getElem_toArray, List.getElem_cons_succ, List.getElem_cons_zero, Act.put, List.setIfInBounds_toArray, List.set_cons_zero, List.set_cons_succ]
  refine wpAnyH_take (i := 3) (oi := _) (v := ?_) rfl (by kernel_rfl) (by kernel_rfl) (by kernel_rfl) (fun _ _ _ h => h) (Or.inl ⟨by rfl, ?_⟩) (by assumption) ?_
  rotate_left
  · intro wX hSw; (try dsimp only at hSw); go_simp; first | done | with_reducible rfl
  simp only [List.getElem_toArray, List.getElem_cons_succ, List.getElem_cons_zero, Act.put, List.setIfInBounds_toArray, List.set_cons_zero, List.set_cons_succ]
  refine wpAnyH_take (i := 4) (oi := _) (v := ?_) rfl (by kernel_rfl) (by kernel_rfl) (by kernel_rfl) (fun _ _ _ h => h) (Or.inl ⟨by rfl, ?_⟩) (by assumption) ?_
  rotate_left
  · intro wX hSw; (try dsimp only at hSw); go_simp; first | done | with_reducible rfl
  simp only [List.getElem_toArray, List.getElem_cons_succ, List.getElem_cons_zero, Act.put, List.setIfInBounds_toArray, List.set_cons_zero, List.set_cons_succ]
  refine wpAnyH_take (i := 5) (oi := _) (v := ?_) rfl (by kernel_rfl) (by kernel_rfl) (by kernel_rfl) (fun _ _ _ h => h) (Or.inl ⟨by rfl, ?_⟩) (by assumption) ?_
  rotate_left
  · intro wX hSw; (try dsimp only at hSw); go_simp; first | done | with_reducible rfl
  simp only [List.getElem_toArray, List.getElem_cons_succ, List.getElem_cons_zero, Act.put, List.setIfInBounds_toArray, List.set_cons_zero, List.set_cons_succ]
  refine wpAnyH_take (i := 6) (oi := _) (v := ?_) rfl (by kernel_rfl) (by kernel_rfl) (by kernel_rfl) (fun _ _ _ h => h) (Or.inl ⟨by rfl, ?_⟩) (by assumption) ?_
  rotate_left
  · intro wX hSw; (try dsimp only at hSw); go_simp; first | done | with_reducible rfl
  simp only [List.getElem_toArray, List.getElem_cons_succ, List.getElem_cons_zero, Act.put, List.setIfInBounds_toArray, List.set_cons_zero, List.set_cons_succ]
  rw [show IntKind.i64.wrap 1 = 1 from rfl]
  refine wpAnyH_ready (rs := [2, 7]) (by kernel_rfl) (by simp) (AllReadyH.cons (o := _) rfl (fun KQ hKQ => ?_) (AllReadyH.cons (o := _) rfl (fun KQ hKQ => ?_) AllReadyH.nil))
  · go_simp
    refine (HD.out _).mono ?_
    rintro e w1 ⟨rfl, hb1⟩
    have B1 := hidd (hBd.trans (hb1.mono hBd.size))
    refine hKQ.out _ _ ?_ (fun hNext => ?_)
    · exact B1.out
    clear hKQ KQ hHeld hb1
    have hHeld := hNext
    clear hNext
    refine wpAnyH_ready (rs := [7]) (by kernel_rfl) (by simp) (AllReadyH.cons (o := _) rfl (fun KQ hKQ => ?_) AllReadyH.nil)
    go_simp
    refine hKQ.out _ _ ?_ (fun hNext => ?_)
    · exact B1.out.alloc B1.out.size _
    clear hKQ KQ hHeld
    have hHeld := hNext
    clear hNext
    have hc := HC.out (w1.alloc (.cells #[.int .u8 (48 + m)] 5)) w1.heap.size ((Blk.new w1 #[.int .u8 (48 + m)] 5 _ rfl).cell rfl)
    refine wpAnyH_ready (rs := [8]) (by kernel_rfl) (by simp) (AllReadyH.cons (o := _) rfl (fun KQ hKQ => ?_) AllReadyH.nil)
    go_simp
    refine hKQ.out _ _ ?_ (fun hNext => ?_)
    · exact B1.out.alloc B1.out.size _
    clear hKQ KQ hHeld
    have hHeld := hNext
    clear hNext
    refine wpAnyH_take (i := 9) (oi := _) (v := ?_) rfl (by kernel_rfl) (by kernel_rfl) (by kernel_rfl) (fun _ _ _ h => h) (Or.inl ⟨by rfl, ?_⟩) (by assumption) ?_
    rotate_left
    · intro wX hSw; (try dsimp only at hSw); go_simp; first | done | with_reducible rfl
    simp only [List.getElem_toArray, List.getElem_cons_succ, List.getElem_cons_zero, Act.put, List.setIfInBounds_toArray, List.set_cons_zero, List.set_cons_succ]
    refine wpAnyH_take (i := 10) (oi := _) (v := ?_) rfl (by kernel_rfl) (by kernel_rfl) (by kernel_rfl) (fun _ _ _ h => h) (Or.inl ⟨by rfl, ?_⟩) (by assumption) ?_
    rotate_left
    · intro wX hSw; (try dsimp only at hSw); go_simp; first | done | with_reducible rfl
    simp only [List.getElem_toArray, List.getElem_cons_succ, List.getElem_cons_zero, Act.put, List.setIfInBounds_toArray, List.set_cons_zero, List.set_cons_succ]
    refine wpAnyH_done (by kernel_rfl) ?_ _
    go_wp2
    go_ret
    exact ⟨rfl, B1.out.alloc B1.out.size _⟩
  · go_simp
    have B1 := hidd (((Below.refl w.heap.size w).alloc (Nat.le_refl _) (.cells #[.int .u8 (48 + m)] 5)).drew)
    have K1 := hidd ((Blk.new w #[.int .u8 (48 + m)] 5 _ rfl).drew)
    refine hKQ.out _ _ ?_ (fun hNext => ?_)
    · exact B1.out
    clear hKQ KQ hHeld
    have hHeld := hNext
    clear hNext
    refine wpAnyH_ready (rs := [2, 8]) (by kernel_rfl) (by simp) (AllReadyH.cons (o := _) rfl (fun KQ hKQ => ?_) (AllReadyH.cons (o := _) rfl (fun KQ hKQ => ?_) AllReadyH.nil))
    · go_simp
      refine (HD.out _).mono ?_
      rintro e w1 ⟨rfl, hb1⟩
      have B2 := hidd (B1.out.trans (hb1.mono B1.out.size))
      have hc := HC.out w1 w.heap.size ((K1.out.below hb1 K1.out.lt).cell rfl)
      refine hKQ.out _ _ ?_ (fun hNext => ?_)
      · exact B2.out
      clear hKQ KQ hHeld hb1
      have hHeld := hNext
      clear hNext
      refine wpAnyH_ready (rs := [8]) (by kernel_rfl) (by simp) (AllReadyH.cons (o := _) rfl (fun KQ hKQ => ?_) AllReadyH.nil)
      go_simp
      refine hKQ.out _ _ ?_ (fun hNext => ?_)
      · exact B2.out
      clear hKQ KQ hHeld
      have hHeld := hNext
      clear hNext
      refine wpAnyH_take (i := 9) (oi := _) (v := ?_) rfl (by kernel_rfl) (by kernel_rfl) (by kernel_rfl) (fun _ _ _ h => h) (Or.inl ⟨by rfl, ?_⟩) (by assumption) ?_
      rotate_left
      · intro wX hSw; (try dsimp only at hSw); go_simp; first | done | with_reducible rfl
      simp only [List.getElem_toArray, List.getElem_cons_succ, List.getElem_cons_zero, Act.put, List.setIfInBounds_toArray, List.set_cons_zero, List.set_cons_succ]
      refine wpAnyH_take (i := 10) (oi := _) (v := ?_) rfl (by kernel_rfl) (by kernel_rfl) (by kernel_rfl) (fun _ _ _ h => h) (Or.inl ⟨by rfl, ?_⟩) (by assumption) ?_
      rotate_left
      · intro wX hSw; (try dsimp only at hSw); go_simp; first | done | with_reducible rfl
      simp only [List.getElem_toArray, List.getElem_cons_succ, List.getElem_cons_zero, Act.put, List.setIfInBounds_toArray, List.set_cons_zero, List.set_cons_succ]
      refine wpAnyH_done (by kernel_rfl) ?_ _
      go_wp2
      go_ret
      exact ⟨rfl, B2.out⟩
    · have hc := HC.out _ w.heap.size (K1.out.cell rfl)
      go_simp
      refine hKQ.out _ _ ?_ (fun hNext => ?_)
      · exact B1.out
      clear hKQ KQ hHeld
      have hHeld := hNext
      clear hNext
      refine wpAnyH_ready (rs := [2]) (by kernel_rfl) (by simp) (AllReadyH.cons (o := _) rfl (fun KQ hKQ => ?_) AllReadyH.nil)
      go_simp
      refine (HD.out _).mono ?_
      rintro e w1 ⟨rfl, hb1⟩
      have B2 := hidd (B1.out.trans (hb1.mono B1.out.size))
      refine hKQ.out _ _ ?_ (fun hNext => ?_)
      · exact B2.out
      clear hKQ KQ hHeld hb1
      have hHeld := hNext
      clear hNext
      refine wpAnyH_take (i := 9) (oi := _) (v := ?_) rfl (by kernel_rfl) (by kernel_rfl) (by kernel_rfl) (fun _ _ _ h => h) (Or.inl ⟨by rfl, ?_⟩) (by assumption) ?_
      rotate_left
      · intro wX hSw; (try dsimp only at hSw); go_simp; first | done | with_reducible rfl
      simp only [List.getElem_toArray, List.getElem_cons_succ, List.getElem_cons_zero, Act.put, List.setIfInBounds_toArray, List.set_cons_zero, List.set_cons_succ]
      refine wpAnyH_take (i := 10) (oi := _) (v := ?_) rfl (by kernel_rfl) (by kernel_rfl) (by kernel_rfl) (fun _ _ _ h => h) (Or.inl ⟨by rfl, ?_⟩) (by assumption) ?_
      rotate_left
      · intro wX hSw; (try dsimp only at hSw); go_simp; first | done | with_reducible rfl
      simp only [List.getElem_toArray, List.getElem_cons_succ, List.getElem_cons_zero, Act.put, List.setIfInBounds_toArray, List.set_cons_zero, List.set_cons_succ]
      refine wpAnyH_done (by kernel_rfl) ?_ _
      go_wp2
      go_ret
      exact ⟨rfl, B2.out⟩
/-- A number below twenty, as the model writes it. -/
theorem dec13 (n : Int) (n1 : 0 ≤ n) (n5 : n < 20) (w : World) : Calls Tryd.prog 13 #[.int .i64 n] w fun e w' => e = .returned (.string (strOfNums (dg n))) ∧ Below w.heap.size w w' := by
  by_cases h : n < 10
  · rw [dg_lo h]; exact dec13a n n1 h w
  · rw [dg_hi h]
    have := dec13b (n - 10) (by omega) (by omega) w
    rw [show 10 + (n - 10) = n by omega, show 48 + (n - 10) = 38 + n by omega] at this
    exact this
end Go.Proofs.YtilpfhiebbbbjaaDoor
