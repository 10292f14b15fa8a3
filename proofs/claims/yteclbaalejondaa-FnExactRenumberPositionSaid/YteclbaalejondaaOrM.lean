/- The model's test of an order. -/
import Derived.Test.YteclbaalejondaaSrt
namespace Go.Proofs.Yteclbaalejondaa
set_option linter.unusedVariables false
set_option linter.unusedSimpArgs false
open Go Go.RowKit Go.Shelf
theorem make85 (n : Nat) (h : n ≤ 1048576) (zs : List Int) (w : World) : (Instr.makeSlice 65 (.int .i64 n) (.int .i64 n)).run Try.prog w = .ok (.slice (some ⟨w.heap.size, 0, none⟩) n n) (w.alloc (.cells (metC n zs 0) 4)) := by
  obtain ⟨i, hi, hz0, hz1, hz2⟩ := info_parts info4
  have := run_make (P := Try.prog) w 65 4 i (.bool false) Try.underlying65 hi hz0 .i64 .i64 n n (by omega) (by omega) (by rw [hz2]; omega) (by omega)
  rw [this, hz1, ← metC_0 n zs]
  simp [Value.cells]
set_option maxRecDepth 100000 in
set_option maxHeartbeats 1000000 in
theorem order63 (zs : List Int) (a : Option Addr) (cap : Nat) (n : Int) (w : World) (hs : SlI w a zs) (hl : zs.length ≤ 9223372036854775807) (n1 : 1 ≤ n) (n2 : n ≤ 17) :
    Calls Try.prog 48 #[.slice a zs.length cap, .int .i64 n] w fun e w' => e = .returned (.bool (ordB zs n)) ∧ Below w.heap.size w w' := by
  obtain ⟨N, rfl⟩ := Int.eq_ofNat_of_zero_le (show 0 ≤ n by omega)
  have hmk := make85 N (by omega) zs
  have HSL := hidd hs
  clear hs
  go_enter Try.func48, Try.ntmps48
  go_wp2_with fail
  clear hmk
  go_loopw [6] (fun e wr => ∃ j : Nat, j ≤ zs.length ∧ e = .int .i64 j ∧ Hid (Ord zs (N : Int) j) ∧ RelOr N zs a w j wr) (fun e _ => zs.length - (intOf e).toNat)
  case atStart =>
    have hb := (Below.refl w.heap.size w).alloc (Nat.le_refl _) (.cells (metC N zs 0) 4)
    exact ⟨0, by omega, rfl, ⟨by simp, by simp⟩, Blk.new _ _ _ _ rfl, HSL.out.below hb (Nat.le_refl _), hb⟩
  case round =>
    obtain ⟨j, hj, rfl, HO, HR⟩ := hrel
    have HK := hidd HR
    clear HR
    by_cases hlt : j < zs.length
    · rcases HK.out.2.1 with hz | ⟨b, off, ha, hc⟩
      · subst hz; simp at hlt
      · subst ha
        have hcj := hc j hlt
        obtain ⟨z, hz⟩ : ∃ z, z = zs.getD j 0 := ⟨_, rfl⟩
        rw [← hz] at hcj
        have HZ := hidd hz
        clear hc hz
        cases hin : belowB z (N : Int) with
        | false =>
          have HB := hidd (show inB z 0 ((N : Int) - 1) = false from hin)
          have HF := hidd (ord_out (n := (N : Int)) hlt (by rw [← HZ.out]; exact hin))
          clear hin
          go_wp2_with (go_at_call 42; refine (in49 _ _ _ _).mono ?_; rintro e w' ⟨rfl, rfl⟩; rw [HB.out])
          go_ret
          exact ⟨by rw [HF.out]; rfl, HK.out.2.2⟩
        | true =>
          have HB := hidd (show inB z 0 ((N : Int) - 1) = true from hin)
          obtain ⟨z0, z1⟩ := inB_bd hin
          obtain ⟨q, rfl⟩ := Int.eq_ofNat_of_zero_le z0
          have hqN : q < N := by omega
          have cm := HK.out.1.cell (metC_get (zs := zs) (j := j) hqN)
          have fm := HK.out.1.fro q
          by_cases hmem : (q : Int) ∈ zs.take j
          · have HF := hidd (ord_twice (n := (N : Int)) hlt (by rw [← HZ.out]; exact hmem))
            rw [show memB (zs.take j) q = true from decide_eq_true hmem] at cm
            clear hin hmem
            go_wp2_with (go_at_call 42; refine (in49 _ _ _ _).mono ?_; rintro e w' ⟨rfl, rfl⟩; rw [HB.out])
            go_ret
            exact ⟨by rw [HF.out]; rfl, HK.out.2.2⟩
          · have HO2 := hidd (HO.out.step hlt (by rw [← HZ.out]; exact hin) (by rw [← HZ.out]; exact hmem))
            rw [show memB (zs.take j) q = false from decide_eq_false hmem] at cm
            have s := HK.out.1.same q (.bool true)
            rw [metC_step hlt HZ.out.symm] at s
            have hbe := HK.out.2.2.setCell (p := ⟨w.heap.size, q, none⟩) (by show w.heap.size ≤ w.heap.size; omega) (.bool true)
            have K := hidd (show RelOr N zs (some ⟨b, off, none⟩) w (j + 1) _ from ⟨s, HSL.out.below hbe (Nat.le_refl _), hbe⟩)
            clear hin hmem s hbe
            go_wp2_with (go_at_call 42; refine (in49 _ _ _ _).mono ?_; rintro e w' ⟨rfl, rfl⟩; rw [HB.out])
            go_roundw
            case rel => exact ⟨j + 1, by omega, by go_num, HO2, K.out⟩
            case measure => simp [intOf]; omega
    · have hje : j = zs.length := by omega
      subst hje
      have HF := hidd HO.out.done
      go_wp2_with fail
      go_ret
      exact ⟨by rw [HF.out]; rfl, HK.out.2.2⟩
end Go.Proofs.Yteclbaalejondaa
