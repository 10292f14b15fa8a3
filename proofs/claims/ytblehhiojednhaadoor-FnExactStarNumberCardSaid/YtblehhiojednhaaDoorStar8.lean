/- the function of two numbers, both sides. -/
import Derived.Test.YtblehhiojednhaaDoorMst
namespace Go.Proofs.YtblehhiojednhaaDoor
set_option linter.unusedVariables false
set_option linter.unusedSimpArgs false
open Go Go.RowKit
def snV (a b : Int) : Int := if a % 2 = 0 ∧ b % 2 = 0 then a + b - 1 else a + b
set_option maxRecDepth 100000 in
set_option maxHeartbeats 1000000 in
theorem spec23 (a b : Int) (w : World) :
    Calls Tryd.prog 23 #[.int .i64 a, .int .i64 b] w fun e w' => e = .returned (.tuple #[.int .i64 (if inB a 1 1000 && inB b 1 1000 then snV a b else 0), .int .i64 (if inB a 1 1000 && inB b 1 1000 then 0 else 2)]) ∧ Below w.heap.size w w' := by
  have H0 := hidd (Below.refl w.heap.size w)
  cases ha : inB a 1 1000 with
  | false =>
    have HA := hidd ha
    clear ha
    go_enter Tryd.func23, Tryd.ntmps23
    go_wp2_with (go_at_call 29; refine (in49 _ _ _ _).mono ?_; rintro e w' ⟨rfl, rfl⟩; rw [HA.out])
    all_goals (go_ret2; exact ⟨by simp, H0.out⟩)
  | true =>
    cases hb : inB b 1 1000 with
    | false =>
      have HA := hidd ha
      have HB := hidd hb
      clear ha hb
      go_enter Tryd.func23, Tryd.ntmps23
      go_wp2_with (go_at_call 29; refine (in49 _ _ _ _).mono ?_; rintro e w' ⟨rfl, rfl⟩; first | rw [HA.out] | rw [HB.out])
      all_goals (go_ret2; exact ⟨by simp, H0.out⟩)
    | true =>
      have HA := hidd ha
      have HB := hidd hb
      have h1 := inB_bd ha
      have h2 := inB_bd hb
      clear ha hb
      go_enter Tryd.func23, Tryd.ntmps23
      go_wp2_with (go_at_call 29; refine (in49 _ _ _ _).mono ?_; rintro e w' ⟨rfl, rfl⟩; first | rw [HA.out] | rw [HB.out])
      all_goals (go_ret2; refine ⟨?_, H0.out⟩)
      all_goals (simp; unfold snV; (repeat' split) <;> first | omega | (simp_all; done) | (simp_all; omega))
theorem ent46 (args : Array Value) (w : World) : (callFunc 46 args).run Tryd.prog w = .ok (.enter 46 args) w := by kernel_rfl
set_option maxRecDepth 100000 in
set_option maxHeartbeats 1000000 in
theorem clo46 (a b : Int) (p q : Nat) (e0 : Addr) (w : World) (hp : w.cell? ⟨p, 0, none⟩ = some (.int .i64 a)) (hq : w.cell? ⟨q, 0, none⟩ = some (.int .i64 b)) (hE : Er w e0) :
    Calls Tryd.prog 46 #[.pointer (some ⟨p, 0, none⟩), .pointer (some ⟨q, 0, none⟩)] w fun e w' => e = (if inB a 1 1000 && inB b 1 1000 then .returned (.int .i64 (snV a b)) else .panicked (pan e0)) ∧ Below w.heap.size w w' := by
  have HN := hidd ((Below.refl w.heap.size w).alloc (Nat.le_refl _) (.cells #[.int .i64 a, .int .i64 b] 2))
  have HM := hidd (must2 1 1000 a b w.heap.size e0 _ (Blk.new w #[.int .i64 a, .int .i64 b] 2 _ rfl) (hE.alloc _))
  have hp2 := cell_past hp (.cells #[.int .i64 a, .int .i64 b] 2)
  have hq2 := cell_past hq (.cells #[.int .i64 a, .int .i64 b] 2)
  clear hE
  cases hc : (inB a 1 1000 && inB b 1 1000) with
  | false =>
    have HC := hidd hc
    clear hc
    go_enter Tryd.func46, Tryd.ntmps46
    go_wp2_with fail
    refine HM.out.mono ?_
    rintro e w1 ⟨rfl, rfl⟩
    rw [HC.out]
    exact ⟨rfl, rfl, HN.out⟩
  | true =>
    have h1 := inB_bd (Bool.and_eq_true_iff.1 hc).1
    have h2 := inB_bd (Bool.and_eq_true_iff.1 hc).2
    have HC := hidd hc
    clear hc
    go_enter Tryd.func46, Tryd.ntmps46
    go_wp2_with fail
    refine HM.out.mono ?_
    rintro e w1 ⟨rfl, rfl⟩
    rw [HC.out]
    go_wp2
    all_goals (go_ret; refine ⟨?_, HN.out⟩)
    all_goals (simp; unfold snV; (repeat' split) <;> first | omega | (simp_all; done) | (simp_all; omega))
set_option maxRecDepth 100000 in
set_option maxHeartbeats 1000000 in
theorem impl24 (a b : Int) (e0 : Addr) (w : World) (hE : Er w e0) :
    Calls Tryd.prog 24 #[.int .i64 a, .int .i64 b] w fun e w' => e = .returned (.tuple #[.int .i64 (if inB a 1 1000 && inB b 1 1000 then snV a b else 0), .int .i64 (if inB a 1 1000 && inB b 1 1000 then 0 else 2)]) ∧ Below w.heap.size w w' := by
  have hmf : ∀ (fn : Fn) (first cap : Array Value) (w : World), (Instr.makeFunc fn first cap).run Tryd.prog w = .ok (.func fn first cap) w := fun _ _ _ _ => rfl
  obtain ⟨W, hW⟩ : ∃ W, W = (w.alloc (.cells #[.int .i64 a] 2)).alloc (.cells #[.int .i64 b] 2) := ⟨_, rfl⟩
  have hsz : W.heap.size = w.heap.size + 2 := by rw [hW]; simp
  have hlo : Below w.heap.size w W := by rw [hW]; exact ((Below.refl w.heap.size w).alloc (Nat.le_refl _) _).alloc (by simp) _
  have hE1 : Er W e0 := by rw [hW]; exact (hE.alloc _).alloc _
  have hA1 : W.cell? ⟨w.heap.size, 0, none⟩ = some (.int .i64 a) := by rw [hW]; exact cell_past ((Blk.new w #[.int .i64 a] 2 _ rfl).cell rfl) _
  have hB1 : W.cell? ⟨w.heap.size + 1, 0, none⟩ = some (.int .i64 b) := by rw [hW]; exact (Blk.new _ #[.int .i64 b] 2 _ (by simp)).cell rfl
  have hE2 : Er (W.alloc (.cells #[.int .i64 0] 2)) e0 := hE1.alloc _
  have hK := clo46 a b w.heap.size (w.heap.size + 1) e0 (W.alloc (.cells #[.int .i64 0] 2)) (cell_past hA1 _) (cell_past hB1 _) hE2
  cases hc : (inB a 1 1000 && inB b 1 1000) with
  | false =>
    rw [hc] at hK
    have HI := hidd (enter_bad 46 #[.pointer (some ⟨w.heap.size, 0, none⟩), .pointer (some ⟨w.heap.size + 1, 0, none⟩)] e0 W ent46 hE1 (hK.mono fun e w2 h => ⟨h.1, h.2.mono (by simp)⟩))
    have HW := hidd hW
    have HL := hidd (And.intro hlo hsz)
    clear hW hK hE1 hA1 hB1 hE2 hE hc hlo hsz
    go_enter Tryd.func24, Tryd.ntmps24
    go_wp2_with fail
    rw [← HW.out]
    refine HI.out.mono ?_
    rintro e w1 ⟨rfl, hb⟩
    have HB := hidd (HL.out.1.trans (hb.mono (by have := HL.out.2; omega)))
    clear hb
    go_wp2
    go_ret2
    exact ⟨rfl, HB.out⟩
  | true =>
    rw [hc] at hK
    have HI := hidd (enter_ok 46 #[.pointer (some ⟨w.heap.size, 0, none⟩), .pointer (some ⟨w.heap.size + 1, 0, none⟩)] (snV a b) W ent46 (hK.mono fun e w2 h => ⟨h.1, h.2.mono (by simp)⟩))
    have HW := hidd hW
    have HL := hidd (And.intro hlo hsz)
    clear hW hK hE1 hA1 hB1 hE2 hE hc hlo hsz
    go_enter Tryd.func24, Tryd.ntmps24
    go_wp2_with fail
    rw [← HW.out]
    refine HI.out.mono ?_
    rintro e w1 ⟨rfl, hb⟩
    have HB := hidd (HL.out.1.trans (hb.mono (by have := HL.out.2; omega)))
    clear hb
    go_wp2
    go_ret2
    exact ⟨rfl, HB.out⟩
end Go.Proofs.YtblehhiojednhaaDoor

