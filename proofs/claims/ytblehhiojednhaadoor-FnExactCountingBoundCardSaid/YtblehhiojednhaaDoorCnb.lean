/- CountingBound, both sides. -/
import Derived.Test.YtblehhiojednhaaDoorCns
namespace Go.Proofs.YtblehhiojednhaaDoor
set_option linter.unusedVariables false
set_option linter.unusedSimpArgs false
open Go Go.RowKit
/-- The counting bound of m. -/
def cbV (m : Int) : Int := [0, 0, 1, 3, 6, 11, 17, 27, 42, 65, 100].getD m.toNat 0
theorem m_cases {m : Int} (h : 2 ≤ m ∧ m ≤ 10) : m = 2 ∨ m = 3 ∨ m = 4 ∨ m = 5 ∨ m = 6 ∨ m = 7 ∨ m = 8 ∨ m = 9 ∨ m = 10 := by omega
theorem count42 (m : Int) (h : 2 ≤ m ∧ m ≤ 10) (w : World) : Calls Tryd.prog 42 #[.int .i64 m] w fun e w' => e = .returned (.int .i64 (cbV m)) ∧ w = w' := by
  rcases m_cases h with rfl | rfl | rfl | rfl | rfl | rfl | rfl | rfl | rfl
  · exact count42_2 w
  · exact count42_3 w
  · exact count42_4 w
  · exact count42_5 w
  · exact count42_6 w
  · exact count42_7 w
  · exact count42_8 w
  · exact count42_9 w
  · exact count42_10 w
set_option maxRecDepth 100000 in
set_option maxHeartbeats 1000000 in
theorem spec17 (m : Int) (w : World) : Calls Tryd.prog 17 #[.int .i64 m] w fun e w' => e = .returned (.tuple #[.int .i64 (if inB m 2 10 then cbV m else 0), .int .i64 (if inB m 2 10 then 0 else 2)]) ∧ Below w.heap.size w w' := by
  have H0 := hidd (Below.refl w.heap.size w)
  cases hc : inB m 2 10 with
  | false =>
    have HC := hidd hc
    clear hc
    go_enter Tryd.func17, Tryd.ntmps17
    go_wp2_with (go_at_call 29; refine (in49 _ _ _ _).mono ?_; rintro e w' ⟨rfl, rfl⟩; rw [HC.out])
    all_goals (go_ret2; exact ⟨by simp, H0.out⟩)
  | true =>
    rcases m_cases (inB_bd hc) with rfl | rfl | rfl | rfl | rfl | rfl | rfl | rfl | rfl
    · exact (spec17_2 w).mono fun e w' h => ⟨h.1, h.2 ▸ H0.out⟩
    · exact (spec17_3 w).mono fun e w' h => ⟨h.1, h.2 ▸ H0.out⟩
    · exact (spec17_4 w).mono fun e w' h => ⟨h.1, h.2 ▸ H0.out⟩
    · exact (spec17_5 w).mono fun e w' h => ⟨h.1, h.2 ▸ H0.out⟩
    · exact (spec17_6 w).mono fun e w' h => ⟨h.1, h.2 ▸ H0.out⟩
    · exact (spec17_7 w).mono fun e w' h => ⟨h.1, h.2 ▸ H0.out⟩
    · exact (spec17_8 w).mono fun e w' h => ⟨h.1, h.2 ▸ H0.out⟩
    · exact (spec17_9 w).mono fun e w' h => ⟨h.1, h.2 ▸ H0.out⟩
    · exact (spec17_10 w).mono fun e w' h => ⟨h.1, h.2 ▸ H0.out⟩
theorem ent41 (args : Array Value) (w : World) : (callFunc 41 args).run Tryd.prog w = .ok (.enter 41 args) w := by kernel_rfl
set_option maxRecDepth 100000 in
set_option maxHeartbeats 1000000 in
theorem clo41 (m : Int) (p : Nat) (e0 : Addr) (w : World) (hp : w.cell? ⟨p, 0, none⟩ = some (.int .i64 m)) (hE : Er w e0) :
    Calls Tryd.prog 41 #[.pointer (some ⟨p, 0, none⟩)] w fun e w' => e = (if inB m 2 10 then .returned (.int .i64 (cbV m)) else .panicked (pan e0)) ∧ Below w.heap.size w w' := by
  have HN := hidd ((Below.refl w.heap.size w).alloc (Nat.le_refl _) (.cells #[.int .i64 m] 2))
  have HM := hidd (must1 2 10 m w.heap.size e0 _ (Blk.new w #[.int .i64 m] 2 _ rfl) (hE.alloc _))
  have hp2 := cell_past hp (.cells #[.int .i64 m] 2)
  clear hE
  cases hc : inB m 2 10 with
  | false =>
    have HC := hidd hc
    clear hc
    go_enter Tryd.func41, Tryd.ntmps41
    go_wp2_with fail
    refine HM.out.mono ?_
    rintro e w1 ⟨rfl, rfl⟩
    rw [HC.out]
    exact ⟨rfl, rfl, HN.out⟩
  | true =>
    have HL := hidd (inB_bd hc)
    have HC := hidd hc
    clear hc
    go_enter Tryd.func41, Tryd.ntmps41
    go_wp2_with fail
    refine HM.out.mono ?_
    rintro e w1 ⟨rfl, rfl⟩
    rw [HC.out]
    go_wp2_with fail
    refine (count42 m HL.out _).mono ?_
    rintro e w2 ⟨rfl, rfl⟩
    go_wp2
    go_ret
    exact ⟨rfl, HN.out⟩
set_option maxRecDepth 100000 in
set_option maxHeartbeats 1000000 in
theorem impl18 (m : Int) (e0 : Addr) (w : World) (hE : Er w e0) :
    Calls Tryd.prog 18 #[.int .i64 m] w fun e w' => e = .returned (.tuple #[.int .i64 (if inB m 2 10 then cbV m else 0), .int .i64 (if inB m 2 10 then 0 else 2)]) ∧ Below w.heap.size w w' := by
  have hmf : ∀ (fn : Fn) (first cap : Array Value) (w : World), (Instr.makeFunc fn first cap).run Tryd.prog w = .ok (.func fn first cap) w := fun _ _ _ _ => rfl
  obtain ⟨W, hW⟩ : ∃ W, W = w.alloc (.cells #[.int .i64 m] 2) := ⟨_, rfl⟩
  have hsz : W.heap.size = w.heap.size + 1 := by rw [hW]; simp
  have hlo : Below w.heap.size w W := by rw [hW]; exact (Below.refl w.heap.size w).alloc (Nat.le_refl _) _
  have hE1 : Er W e0 := by rw [hW]; exact hE.alloc _
  have hA1 : W.cell? ⟨w.heap.size, 0, none⟩ = some (.int .i64 m) := by rw [hW]; exact (Blk.new w #[.int .i64 m] 2 _ rfl).cell rfl
  have hE2 : Er (W.alloc (.cells #[.int .i64 0] 2)) e0 := hE1.alloc _
  have hK := clo41 m w.heap.size e0 (W.alloc (.cells #[.int .i64 0] 2)) (cell_past hA1 _) hE2
  have HW := hidd hW
  have HL := hidd (And.intro hlo hsz)
  cases hc : inB m 2 10 with
  | false =>
    rw [hc] at hK
    have HI := hidd (enter_bad 41 #[.pointer (some ⟨w.heap.size, 0, none⟩)] e0 W ent41 hE1 (hK.mono fun e w2 h => ⟨h.1, h.2.mono (by simp)⟩))
    clear hW hK hE1 hA1 hE2 hE hc hlo hsz
    go_enter Tryd.func18, Tryd.ntmps18
    go_wp2_with fail
    rw [← HW.out]
    refine HI.out.mono ?_
    rintro e w1 ⟨rfl, hb⟩
    have HB := hidd (HL.out.1.trans (hb.mono (by have := HL.out.2; omega)))
    clear hb
    go_wp2
    go_ret2
    exact ⟨rfl, HB.out⟩
  | true =>
    rw [hc] at hK
    have HI := hidd (enter_ok 41 #[.pointer (some ⟨w.heap.size, 0, none⟩)] (cbV m) W ent41 (hK.mono fun e w2 h => ⟨h.1, h.2.mono (by simp)⟩))
    clear hW hK hE1 hA1 hE2 hE hc hlo hsz
    go_enter Tryd.func18, Tryd.ntmps18
    go_wp2_with fail
    rw [← HW.out]
    refine HI.out.mono ?_
    rintro e w1 ⟨rfl, hb⟩
    have HB := hidd (HL.out.1.trans (hb.mono (by have := HL.out.2; omega)))
    clear hb
    go_wp2
    go_ret2
    exact ⟨rfl, HB.out⟩
end Go.Proofs.YtblehhiojednhaaDoor
