/- The laws' comparison of two colourings, field by field. -/
import Derived.Test.YtikcmgmgdbbcfaaGiven
namespace Go.Proofs.Ytikcmgmgdbbcfaa
set_option linter.unusedVariables false
set_option linter.unusedSimpArgs false
open Go Go.RowKit
def Rel55 (cs bs : List Nat) (w : World) (k : Nat) (wr : World) : Prop := Blk wr w.heap.size (bcells cs).toArray 23 ∧ Blk wr (w.heap.size + 1) (bcells bs).toArray 23 ∧ Below w.heap.size w wr
set_option maxRecDepth 100000 in
set_option maxHeartbeats 400000 in
theorem eqBytes_same (bs : List Nat) (hb : Bys bs) (w : World) :
    Calls Try.prog 49 #[.agg (bcells bs).toArray, .agg (bcells bs).toArray] w fun e w' => e = .returned (.bool true) ∧ Below w.heap.size w w' := by
  go_enter Try.func49, Try.ntmps49
  go_wp2
  go_loopw [5] (fun i wr => ∃ k : Nat, k ≤ 136 ∧ i = .int .i64 k ∧ Rel55 bs bs w k wr) (fun i _ => 136 - (intOf i).toNat)
  case atStart =>
    exact ⟨0, by omega, rfl, (Blk.new _ _ _ _ rfl).alloc _, Blk.new _ _ _ _ (by simp), ((Below.refl _ _).alloc (Nat.le_refl _) _).alloc (by simp) _⟩
  case round =>
    obtain ⟨k, hk, rfl, HR⟩ := hrel
    by_cases hlt : k < 136
    · have hg := hb.get hlt
      obtain ⟨x, hx⟩ : ∃ x, x = bs.getD k 0 := ⟨_, rfl⟩
      rw [← hx] at hg
      have hc0 : wr.cell? ⟨w.heap.size, k, none⟩ = some (.int .u8 (x : Int)) := HR.1.cell (by simpa using hg)
      have hc1 : wr.cell? ⟨w.heap.size + 1, k, none⟩ = some (.int .u8 (x : Int)) := HR.2.1.cell (by simpa using hg)
      have hne : ((x : Int) != (x : Int)) = false := by simp
      have HRR := hidd HR
      clear hx hg HR
      go_wp2
      go_quiet (fail)
      go_wp2
      go_roundw
      case rel => exact ⟨k + 1, by omega, by go_num, HRR.out.1.drewN _, HRR.out.2.1.drewN _, below_drewN HRR.out.2.2 _⟩
      case measure => simp [intOf]; omega
    · have hk6 : k = 136 := by omega
      subst hk6
      go_wp2
      go_ret
      exact ⟨rfl, HR.2.2⟩
set_option maxRecDepth 100000 in
set_option maxHeartbeats 400000 in
theorem eqCol_same (n k : Int) (bs : List Nat) (hb : Bys bs) (w : World) :
    Calls Try.prog 17 #[.agg (ccells n k bs).toArray, .agg (ccells n k bs).toArray] w fun e w' => e = .returned (.bool true) ∧ Below w.heap.size w w' := by
  have HS := hidd (show (Try.prog.info? 23).map (·.size) = some (bcells bs).length by rw [size22]; simp [bcells_len, hb.len])
  have HR := hidd (show ∀ j v, (bcells bs)[j]? = some v → (ccells n k bs).toArray[2 + j]? = some v by
    intro j v hv; rw [show 2 + j = j + 1 + 1 by omega]; simpa [ccells] using hv)
  obtain ⟨C, hC⟩ : ∃ C, C = (ccells n k bs).toArray := ⟨_, rfl⟩
  rw [← hC] at HR
  have hC0 : C[0]? = some (.int .i64 n) := by rw [hC]; rfl
  have hC1 : C[1]? = some (.int .i64 k) := by rw [hC]; rfl
  have hn : (n != n) = false := by simp
  have hk : (k != k) = false := by simp
  rw [← hC]
  clear hC
  have W0 : ((w.alloc (.cells C 25)).alloc (.cells C 25)).cell? ⟨w.heap.size, 0, none⟩ = some (.int .i64 n) := ((Blk.new _ _ _ _ rfl).alloc _).cell hC0
  have W1 : ((w.alloc (.cells C 25)).alloc (.cells C 25)).cell? ⟨w.heap.size, 1, none⟩ = some (.int .i64 k) := ((Blk.new _ _ _ _ rfl).alloc _).cell hC1
  have W2 : ((w.alloc (.cells C 25)).alloc (.cells C 25)).cell? ⟨w.heap.size + 1, 0, none⟩ = some (.int .i64 n) := (Blk.new _ _ _ _ (by simp)).cell hC0
  have W3 : ((w.alloc (.cells C 25)).alloc (.cells C 25)).cell? ⟨w.heap.size + 1, 1, none⟩ = some (.int .i64 k) := (Blk.new _ _ _ _ (by simp)).cell hC1
  go_enter Try.func17, Try.ntmps17
  go_wp2_with (first
    | (refine wpList_load_mid rfl 23 (.tmp 15) rfl w.heap.size 2 rfl (bcells bs) _ (((Blk.new w C 25 _ rfl).alloc _).range 2 _ HR.out) Try.underlying23 rfl HS.out ?_)
    | (refine wpList_load_mid rfl 23 (.tmp 17) rfl (w.heap.size + 1) 2 rfl (bcells bs) _ ((Blk.new (w.alloc (.cells C 25)) C 25 _ (by simp)).range 2 _ HR.out) Try.underlying23 rfl HS.out ?_))
  refine (eqBytes_same bs hb _).mono ?_
  rintro e w1 ⟨rfl, hb1⟩
  have G := hidd ((((Below.refl _ _).alloc (Nat.le_refl _) _).alloc (by simp) _).trans (hb1.mono (B' := w.heap.size) (by simp; omega)))
  clear hb1
  go_wp2
  go_ret
  exact ⟨rfl, G.out⟩
end Go.Proofs.Ytikcmgmgdbbcfaa
