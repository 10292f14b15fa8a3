/- namesOfColourings: the map of the five colourings. -/
import Derived.Test.YtoiamgmlehmomaaNms
namespace Go.Proofs.Ytoiamgmlehmomaa
set_option linter.unusedVariables false
set_option linter.unusedSimpArgs false
open Go Go.RowKit Go.Maps Go.ChangeMaps
theorem pic_at (i : Nat) (hi : i < 4) (a : Option Addr) (w : World) (hs : SlI w a (pcZ i)) :
    Calls Try.prog 24 #[.int .i64 (pcN i : Int), .slice a (pcZ i).length (pcZ i).length] w fun e w' => e = .returned (pcV i) ∧ Below w.heap.size w w' := by
  have h := diff66 (pcN i) (pcZ i) a (pcZ i).length w hs (by unfold pcZ; split <;> simp) (by have := pcN_bd i; omega) (by have := pcN_bd i; omega)
  have e : pcV i = .agg (ccells (pcN i : Int) 2 (paintB (pcN i) (dfR (pcZ i)))).toArray := by
    have h4 : i ≠ 4 := by omega
    unfold pcV pcB
    rw [if_neg h4, show pcK i = 2 by unfold pcK; split <;> first | omega | rfl]
  rw [e]; exact h
theorem pic_4 (w : World) : Calls Try.prog 25 #[.int .i64 16, .int .i64 3, .func (.func 26) #[] #[]] w fun e w' => e = .returned (pcV 4) ∧ Below w.heap.size w w' :=
  paint52 16 3 26 #[] sxR w (by omega) (by omega) (fun x => sx_bd _) (enters_of Try.func26 (by kernel_rfl) rfl) (ruleOf26 w)
theorem sv_new (w : World) (zs : List Int) (C : Array Value) (t : TypeId) (hC : C = (icells zs).toArray) : Sv (w.alloc (.cells C t)) (.slice (some ⟨w.heap.size, 0, none⟩) zs.length zs.length) zs := by
  refine ⟨_, rfl, .inr ⟨w.heap.size, 0, rfl, fun j hj => ?_⟩⟩
  subst hC
  have h1 := (Blk.new w (icells zs).toArray t _ rfl).cell (j := 0 + j) (v := .int .i64 (zs.getD j 0)) (by simp [icells, List.getD, hj])
  exact h1
theorem nmI_start (w : World) : NmI w (Array.replicate 17 false) (mkA fun j => if j = 0 then .map none else undef) w.drew := by
  refine ⟨rfl, _, rfl, ⟨rfl, rfl, rfl, Nat.le_refl _, fun _ _ => rfl⟩, ?_, fun j hj _ _ => ?_, fun j hj h => ?_⟩
  · intro h; simp [Array.getD] at h
  · simp [Array.getD]
  · simp [Array.getD] at h
set_option maxRecDepth 100000 in
set_option maxHeartbeats 4000000 in
theorem names16 (w : World) : Calls Try.prog 16 #[] w fun e w' => ∃ b, e = .returned (.map (some b)) ∧ w.heap.size ≤ b ∧ Below w.heap.size w w' ∧ Mp w' b (fun _ => true) 0 := by
  have H0 := nmI_start w
  go_enter Try.func16, Try.ntmps16
  go_wp2_with fail
  refine wp_region_inv 17 rfl (NmI w) rfl (by kernel_rfl) (fun L a w h => h.1) H0 ?_ ?_
  · intro L a w1 i hI hi hun haf
    have hI' := hI
    obtain ⟨hs, V, rfl, hb, hm, hz, hf⟩ := hI'
    have hi17 : i = 0 ∨ i = 1 ∨ i = 2 ∨ i = 3 ∨ i = 4 ∨ i = 5 ∨ i = 6 ∨ i = 7 ∨ i = 8 ∨ i = 9 ∨ i = 10 ∨ i = 11 ∨ i = 12 ∨ i = 13 ∨ i = 14 ∨ i = 15 ∨ i = 16 := by omega
    clear hi
    rcases hi17 with rfl | rfl | rfl | rfl | rfl | rfl | rfl | rfl | rfl | rfl | rfl | rfl | rfl | rfl | rfl | rfl | rfl
    · clear haf
      refine wpOp_of (o := _) rfl rfl ?_
      unfold mkA
      go_simp
      rw [show (Instr.makeMap 42 none).run Try.prog w1 = .ok (.map (some w1.heap.size)) (w1.alloc (.map #[] 0)) from run_makeMap 42 w1]
      exact hI.make hun
    · clear haf
      refine wpOp_of (o := _) rfl rfl ?_
      unfold mkA
      go_simp
      exact hI.calm 1 2 _ (by omega) hun ((Below.refl _ _).alloc (Nat.le_refl _) _) ⟨by decide, by decide, by decide⟩ (by decide) (fun h => absurd h (by decide)) (sv_new w1 (pcZ 0) _ _ rfl)
    · have ha := haf _ rfl ⟨1, .data⟩ (by simp) rfl
      clear haf
      refine wpOp_of (o := _) rfl rfl ?_
      unfold mkA
      go_simp
      obtain ⟨ad, e, hc⟩ : Sv w1 (V 2) (pcZ 0) := hf 1 (by omega) ha
      have h := pic_at 0 (by omega) ad w1 hc
      rw [← e] at h
      refine Calls.mono h ?_
      rintro e' w' ⟨rfl, hb'⟩
      exact hI.calm 2 3 _ (by omega) hun hb' ⟨by decide, by decide, by decide⟩ (by decide) (fun h => absurd h (by decide)) rfl
    · have ha := haf _ rfl ⟨0, .data⟩ (by simp) rfl
      have hc := haf _ rfl ⟨2, .data⟩ (by simp) rfl
      clear haf
      refine wpOp_of (o := _) rfl rfl ?_
      unfold mkA
      go_simp
      have e3 : V 3 = pcV 0 := hf 2 (by omega) hc
      obtain ⟨b, w', e1, hr, hN⟩ := hI.put 0 (by omega) hun ha
      have hr' : (Instr.mapUpdate 42 (V 1) (V 3) (.string { data := #[112, 101, 110, 116, 97, 103, 111, 110] })).run Try.prog w1 = .ok () w' := by rw [e1, e3]; exact hr
      rw [hr']
      exact hN
    · clear haf
      refine wpOp_of (o := _) rfl rfl ?_
      unfold mkA
      go_simp
      exact hI.calm 4 4 _ (by omega) hun ((Below.refl _ _).alloc (Nat.le_refl _) _) ⟨by decide, by decide, by decide⟩ (by decide) (fun h => absurd h (by decide)) (sv_new w1 (pcZ 1) _ _ rfl)
    · have ha := haf _ rfl ⟨4, .data⟩ (by simp) rfl
      clear haf
      refine wpOp_of (o := _) rfl rfl ?_
      unfold mkA
      go_simp
      obtain ⟨ad, e, hc⟩ : Sv w1 (V 4) (pcZ 1) := hf 4 (by omega) ha
      have h := pic_at 1 (by omega) ad w1 hc
      rw [← e] at h
      refine Calls.mono h ?_
      rintro e' w' ⟨rfl, hb'⟩
      exact hI.calm 5 5 _ (by omega) hun hb' ⟨by decide, by decide, by decide⟩ (by decide) (fun h => absurd h (by decide)) rfl
    · have ha := haf _ rfl ⟨0, .data⟩ (by simp) rfl
      have hc := haf _ rfl ⟨5, .data⟩ (by simp) rfl
      clear haf
      refine wpOp_of (o := _) rfl rfl ?_
      unfold mkA
      go_simp
      have e3 : V 5 = pcV 1 := hf 5 (by omega) hc
      obtain ⟨b, w', e1, hr, hN⟩ := hI.put 1 (by omega) hun ha
      have hr' : (Instr.mapUpdate 42 (V 1) (V 5) (.string { data := #[101, 105, 103, 104, 116] })).run Try.prog w1 = .ok () w' := by rw [e1, e3]; exact hr
      rw [hr']
      exact hN
    · clear haf
      refine wpOp_of (o := _) rfl rfl ?_
      unfold mkA
      go_simp
      exact hI.calm 7 6 _ (by omega) hun ((Below.refl _ _).alloc (Nat.le_refl _) _) ⟨by decide, by decide, by decide⟩ (by decide) (fun h => absurd h (by decide)) (sv_new w1 (pcZ 2) _ _ rfl)
    · have ha := haf _ rfl ⟨7, .data⟩ (by simp) rfl
      clear haf
      refine wpOp_of (o := _) rfl rfl ?_
      unfold mkA
      go_simp
      obtain ⟨ad, e, hc⟩ : Sv w1 (V 6) (pcZ 2) := hf 7 (by omega) ha
      have h := pic_at 2 (by omega) ad w1 hc
      rw [← e] at h
      refine Calls.mono h ?_
      rintro e' w' ⟨rfl, hb'⟩
      exact hI.calm 8 7 _ (by omega) hun hb' ⟨by decide, by decide, by decide⟩ (by decide) (fun h => absurd h (by decide)) rfl
    · have ha := haf _ rfl ⟨0, .data⟩ (by simp) rfl
      have hc := haf _ rfl ⟨8, .data⟩ (by simp) rfl
      clear haf
      refine wpOp_of (o := _) rfl rfl ?_
      unfold mkA
      go_simp
      have e3 : V 7 = pcV 2 := hf 8 (by omega) hc
      obtain ⟨b, w', e1, hr, hN⟩ := hI.put 2 (by omega) hun ha
      have hr' : (Instr.mapUpdate 42 (V 1) (V 7) (.string { data := #[116, 104, 105, 114, 116, 101, 101, 110] })).run Try.prog w1 = .ok () w' := by rw [e1, e3]; exact hr
      rw [hr']
      exact hN
    · clear haf
      refine wpOp_of (o := _) rfl rfl ?_
      unfold mkA
      go_simp
      exact hI.calm 10 8 _ (by omega) hun ((Below.refl _ _).alloc (Nat.le_refl _) _) ⟨by decide, by decide, by decide⟩ (by decide) (fun h => absurd h (by decide)) (sv_new w1 (pcZ 3) _ _ rfl)
    · have ha := haf _ rfl ⟨10, .data⟩ (by simp) rfl
      clear haf
      refine wpOp_of (o := _) rfl rfl ?_
      unfold mkA
      go_simp
      obtain ⟨ad, e, hc⟩ : Sv w1 (V 8) (pcZ 3) := hf 10 (by omega) ha
      have h := pic_at 3 (by omega) ad w1 hc
      rw [← e] at h
      refine Calls.mono h ?_
      rintro e' w' ⟨rfl, hb'⟩
      exact hI.calm 11 9 _ (by omega) hun hb' ⟨by decide, by decide, by decide⟩ (by decide) (fun h => absurd h (by decide)) rfl
    · have ha := haf _ rfl ⟨0, .data⟩ (by simp) rfl
      have hc := haf _ rfl ⟨11, .data⟩ (by simp) rfl
      clear haf
      refine wpOp_of (o := _) rfl rfl ?_
      unfold mkA
      go_simp
      have e3 : V 9 = pcV 3 := hf 11 (by omega) hc
      obtain ⟨b, w', e1, hr, hN⟩ := hI.put 3 (by omega) hun ha
      have hr' : (Instr.mapUpdate 42 (V 1) (V 9) (.string { data := #[115, 101, 118, 101, 110, 116, 101, 101, 110] })).run Try.prog w1 = .ok () w' := by rw [e1, e3]; exact hr
      rw [hr']
      exact hN
    · clear haf
      refine wpOp_of (o := _) rfl rfl ?_
      unfold mkA
      go_simp
      refine Calls.mono (pic_4 w1) ?_
      rintro e' w' ⟨rfl, hb'⟩
      exact hI.calm 13 10 _ (by omega) hun hb' ⟨by decide, by decide, by decide⟩ (by decide) (fun h => absurd h (by decide)) rfl
    · have ha := haf _ rfl ⟨0, .data⟩ (by simp) rfl
      have hc := haf _ rfl ⟨13, .data⟩ (by simp) rfl
      clear haf
      refine wpOp_of (o := _) rfl rfl ?_
      unfold mkA
      go_simp
      have e3 : V 10 = pcV 4 := hf 13 (by omega) hc
      obtain ⟨b, w', e1, hr, hN⟩ := hI.put 4 (by omega) hun ha
      have hr' : (Instr.mapUpdate 42 (V 1) (V 10) (.string { data := #[115, 105, 120, 116, 101, 101, 110] })).run Try.prog w1 = .ok () w' := by rw [e1, e3]; exact hr
      rw [hr']
      exact hN
    · have ha := haf _ rfl ⟨0, .data⟩ (by simp) rfl
      clear haf
      refine wpOp_of (o := _) rfl rfl ?_
      unfold mkA
      go_simp
      exact hI.calm 15 11 _ (by omega) hun (Below.refl _ _) ⟨by decide, by decide, by decide⟩ (by decide) (fun _ => ha) rfl
    · have ha := haf _ rfl ⟨0, .phase⟩ (by simp) rfl
      have hc := haf _ rfl ⟨15, .data⟩ (by simp) rfl
      clear haf
      refine wpOp_of (o := _) rfl rfl ?_
      unfold mkA
      go_simp
      have e3 : V 11 = V 1 := hf 15 (by omega) hc
      exact hI.calm 16 0 _ (by omega) hun (Below.refl _ _) ⟨by decide, by decide, by decide⟩ (by decide) (fun _ => ha) e3
  · rintro L a w1 ⟨hs, V, rfl, hb, hm, hz, hf⟩ hall
    obtain ⟨b, h1, h2, h3⟩ := hm (hall 0 (by omega))
    have e0 : V 0 = V 1 := hf 16 (by omega) (hall 16 (by omega))
    rw [h2] at e0
    have HM := hidd (And.intro hb (And.intro h1 (h3.mono (S' := fun _ => true) (u' := 0) (fun k hk _ => hall (ins k) (by unfold ins; split <;> omega)) (Nat.zero_le _))))
    have H0 := hidd e0
    clear hm hz hf hall hb h1 h2 h3 e0
    unfold mkA
    rw [H0.out]
    go_wp2
    go_ret
    exact ⟨b, rfl, HM.out.2.1, HM.out.1, HM.out.2.2⟩
end Go.Proofs.Ytoiamgmlehmomaa
