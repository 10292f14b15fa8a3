/- Safe moves in the program. -/
import Derived.Test.YteclbaalejondaaAft
namespace Go.Proofs.Yteclbaalejondaa
set_option linter.unusedVariables false
set_option linter.unusedSimpArgs false
open Go Go.RowKit Go.Shelf
/-- Is a move safe? -/
def sfB (N : Nat) (zs : List Int) (e : Nat) : Bool := (triK (mvr zs) (aft zs e) N).isEmpty
set_option maxRecDepth 100000 in
set_option maxHeartbeats 2000000 in
theorem safe41 (N : Nat) (zs : List Int) (h : Pos N zs) (e : Nat) (he : e < zs.length) (hf : frB zs e = true) (w : World) :
    Calls Try.prog 41 #[psL N zs, .int .i64 (e : Int)] w fun x w' => x = .returned (.bool (sfB N zs e)) ∧ Below w.heap.size w w' := by
  have HA := hidd (fun w => after46 N zs h e he hf w)
  have HM := hidd (fun w => mov33 N zs h.l10 w)
  have HH := hidd (fun w => has57 (mvr zs) h.mov (aft zs e) N h.n1 h.n5 (by rw [aft_len]; exact h.len) w)
  have HR := hidd (show sfB N zs e = (triK (mvr zs) (aft zs e) N).isEmpty from rfl)
  obtain ⟨V, hV⟩ : ∃ V, V = psZ N zs := ⟨_, rfl⟩
  have hVp : psL N zs = .agg V := by rw [hV]; rfl
  have HVS := hidd (show (Try.prog.info? 40).map (·.size) = some V.size by rw [hV]; exact size40)
  have HB0 := hidd (And.intro (Blk.new w V 40 _ rfl) ((Below.refl w.heap.size w).alloc (Nat.le_refl _) (.cells V 40)))
  rw [hVp] at HA HM ⊢
  generalize psL N (aft zs e) = Z at *
  generalize (triK (mvr zs) (aft zs e) N).isEmpty = r at *
  generalize mvr zs = m at *
  clear hV hVp h
  go_enter Try.func41, Try.ntmps41
  go_wp2_with fail
  refine wp_region_quiet_at (fun w' => Blk w' w.heap.size V 40 ∧ Below w.heap.size w w') rfl (by kernel_rfl) (⟨HB0.out.1.drew, HB0.out.2.drew⟩) ?_
  refine qs rfl (fun KQ hKQ => ?_)
  apply Exists.intro
  refine ⟨fun w' hw' => ?_, ?_⟩
  · exact quietRow 40 (.tmp 2) rfl w.heap.size rfl 40 _ _ hw'.1 Try.underlying40 rfl HVS.out
  go_simp
  refine hKQ _ ?_
  clear hKQ KQ
  refine qs rfl (fun KQ hKQ => ?_)
  apply Exists.intro
  refine ⟨fun w' hw' => ?_, ?_⟩
  · go_simp; exact rfl
  go_simp
  refine hKQ _ ?_
  clear hKQ KQ
  refine qs rfl (fun KQ hKQ => ?_)
  apply Exists.intro
  refine ⟨fun w' hw' => ?_, ?_⟩
  · go_simp; exact (HA.out _).mono fun _ _ h => ⟨h.1, hw'.1.below h.2 hw'.1.lt, hw'.2.trans (h.2.mono hw'.2.size)⟩
  go_simp
  refine hKQ _ ?_
  clear hKQ KQ
  refine qs rfl (fun KQ hKQ => ?_)
  apply Exists.intro
  refine ⟨fun w' hw' => ?_, ?_⟩
  · exact quietRow 40 (.tmp 2) rfl w.heap.size rfl 40 _ _ hw'.1 Try.underlying40 rfl HVS.out
  go_simp
  refine hKQ _ ?_
  clear hKQ KQ
  refine qs rfl (fun KQ hKQ => ?_)
  apply Exists.intro
  refine ⟨fun w' hw' => ?_, ?_⟩
  · go_simp; exact (HM.out _).mono fun _ _ h => ⟨h.1, hw'.1.below h.2 hw'.1.lt, hw'.2.trans (h.2.mono hw'.2.size)⟩
  go_simp
  refine hKQ _ ?_
  clear hKQ KQ
  refine qs rfl (fun KQ hKQ => ?_)
  apply Exists.intro
  refine ⟨fun w' hw' => ?_, ?_⟩
  · go_simp; exact (HH.out _).mono fun _ _ h => ⟨h.1, hw'.1.below h.2 hw'.1.lt, hw'.2.trans (h.2.mono hw'.2.size)⟩
  go_simp
  refine hKQ _ ?_
  clear hKQ KQ
  refine qs rfl (fun KQ hKQ => ?_)
  apply Exists.intro
  refine ⟨fun w' hw' => ?_, ?_⟩
  · go_simp; exact rfl
  go_simp
  refine hKQ _ ?_
  clear hKQ KQ
  refine qs rfl (fun KQ hKQ => ?_)
  apply Exists.intro
  refine ⟨fun w' hw' => ?_, ?_⟩
  · go_simp; exact rfl
  go_simp
  refine hKQ _ ?_
  clear hKQ KQ
  refine wpQuiet_nil ?_
  intro w' hw'
  have G := hidd hw'
  clear hw'
  go_wp2_with fail
  go_ret
  exact ⟨by rw [HR.out]; first | rfl | (simp; rfl) | simp, G.out.2⟩
theorem over45 (N : Nat) (zs : List Int) (h : Pos N zs) (w : World) :
    Calls Try.prog 45 #[psL N zs] w fun x w' => x = .returned (.bool (rsl N zs != -1)) ∧ Below w.heap.size w w' := by
  have HR := hidd (fun w => result35 N zs h w)
  obtain ⟨V, hV⟩ : ∃ V, V = psZ N zs := ⟨_, rfl⟩
  have hVp : psL N zs = .agg V := by rw [hV]; rfl
  have HVS := hidd (show (Try.prog.info? 40).map (·.size) = some V.size by rw [hV]; exact size40)
  have HB0 := hidd (And.intro (Blk.new w V 40 _ rfl) ((Below.refl w.heap.size w).alloc (Nat.le_refl _) (.cells V 40)))
  rw [hVp] at HR ⊢
  generalize rsl N zs = r at *
  clear hV hVp h
  go_enter Try.func45, Try.ntmps45
  go_wp2_with (refine wpList_load_row rfl 40 (.tmp 1) rfl w.heap.size rfl 40 _ (0,0) _ HB0.out.1 Try.underlying40 rfl HVS.out ?_)
  refine (HR.out _).mono ?_
  rintro e w2 ⟨rfl, hb2⟩
  have G2 := hidd (HB0.out.2.trans (hb2.mono HB0.out.2.size))
  clear hb2
  go_wp2_with fail
  go_ret
  exact ⟨rfl, G2.out⟩
end Go.Proofs.Yteclbaalejondaa
