/- slices.Index and slices.Contains at a list of numbers. -/
import Derived.Test.YtmeihpakbhfipaaDoorPts2
namespace Go.Proofs.YtmeihpakbhfipaaDoor
set_option linter.unusedVariables false
set_option linter.unusedSimpArgs false
open Go Go.RowKit Go.Shelf
set_option maxRecDepth 100000 in
theorem index109 (zs : List Int) (a : Option Addr) (cap : Nat) (x : Int) (w : World) (hs : SlI w a zs) (hl : zs.length ≤ 1048576) :
    Calls Tryd.prog 51 #[.slice a zs.length cap, .int .i64 x] w fun e w' => ∃ r, e = .returned (.int .i64 r) ∧ (0 ≤ r ↔ x ∈ zs) ∧ w = w' := by
  have HS := hidd hs
  clear hs
  go_enter Tryd.func51, Tryd.ntmps51
  go_wp2_with fail
  go_loop [8] (fun i => ∃ j : Nat, j ≤ zs.length ∧ i = .int .i64 j ∧ Hid (∀ m, m < j → zs.getD m 0 ≠ x)) (fun i => zs.length - (intOf i).toNat)
  case atStart => exact ⟨0, by omega, rfl, fun m hm => absurd hm (by omega)⟩
  case round =>
    obtain ⟨j, hj, rfl, HA⟩ := hrel
    by_cases hlt : j < zs.length
    · rcases HS.out with hz | ⟨b, off, ha, hc⟩
      · subst hz; simp at hlt
      · subst ha
        have hcj := hc j hlt
        obtain ⟨z, hz⟩ : ∃ z, z = zs.getD j 0 := ⟨_, rfl⟩
        rw [← hz] at hcj
        have HZ := hidd hz
        clear hz hc
        by_cases he : x = z
        · have heq : (x == z) = true := by simpa using he
          have HM := hidd (show x ∈ zs by
            have h2 : zs.getD j 0 = zs[j] := by simp [List.getD, hlt]
            rw [he, HZ.out, h2]; exact List.getElem_mem hlt)
          clear he
          go_wp2_with fail
          go_ret
          exact ⟨(j : Int), rfl, ⟨fun _ => HM.out, fun _ => by omega⟩, rfl⟩
        · have heq : (x == z) = false := by rw [beq_eq_false_iff_ne]; exact he
          have HE := hidd he
          clear he
          go_wp2_with fail
          go_round
          case rel => exact ⟨j + 1, by omega, by go_num, fun m hm => by
            by_cases e : m = j
            · subst e; rw [← HZ.out]; exact fun h => HE.out h.symm
            · exact HA.out m (by omega)⟩
          case measure => simp [intOf]; omega
    · have hje : j = zs.length := by omega
      subst hje
      go_wp2_with fail
      go_ret
      refine ⟨-1, rfl, ⟨fun h => absurd h (by omega), fun h => ?_⟩, rfl⟩
      obtain ⟨m, hm, hx⟩ := List.mem_iff_getElem.1 h
      exact absurd (by simpa [List.getD, hm] using hx) (HA.out m hm)
set_option maxRecDepth 100000 in
theorem contains99 (zs : List Int) (a : Option Addr) (cap : Nat) (x : Int) (w : World) (hs : SlI w a zs) (hl : zs.length ≤ 1048576) :
    Calls Tryd.prog 46 #[.slice a zs.length cap, .int .i64 x] w fun e w' => e = .returned (.bool (decide (x ∈ zs))) ∧ w = w' := by
  have HI := hidd (index109 zs a cap x w hs hl)
  clear hs
  go_enter Tryd.func46, Tryd.ntmps46
  go_wp2_with fail
  refine HI.out.mono ?_
  rintro e w' ⟨r, rfl, hr, rfl⟩
  by_cases hm : x ∈ zs
  · have h0 := hr.2 hm
    have H := hidd (show decide (x ∈ zs) = true from decide_eq_true hm)
    clear hr hm
    go_wp2
    go_ret
    exact ⟨by rw [H.out]; rfl, rfl⟩
  · have h0 : r < 0 := by
      have : ¬ 0 ≤ r := fun h => hm (hr.1 h)
      omega
    have hd : decide (0 ≤ r) = false := by simp; omega
    have H := hidd (show decide (x ∈ zs) = false from decide_eq_false hm)
    clear hr hm
    go_wp2
    go_ret
    exact ⟨by rw [H.out]; rfl, rfl⟩
end Go.Proofs.YtmeihpakbhfipaaDoor
