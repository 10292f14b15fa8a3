/- enterBound by the contract of what it enters; mustBeWithin. -/
import Derived.Test.YtlnelmickndoaaaDoorEnt
import Derived.WalkLawsBesides
namespace Go.Proofs.YtlnelmickndoaaaDoor
set_option linter.unusedVariables false
set_option linter.unusedSimpArgs false
open Go Go.RowKit
set_option maxRecDepth 100000 in
set_option maxHeartbeats 1000000 in
theorem enter_ok (K : Nat) (caps : Array Value) (v : Int) (w : World) (heg : ∀ args w, (callFunc K args).run Tryd.prog w = .ok (.enter K args) w)
    (hK : Calls Tryd.prog K caps (w.alloc (.cells #[.int .i64 0] 2)) fun e w2 => e = .returned (.int .i64 v) ∧ Below (w.heap.size + 1) (w.alloc (.cells #[.int .i64 0] 2)) w2) :
    Calls Tryd.prog 10 #[.func (.func K) #[] caps] w fun e w' => e = .returned (.tuple #[.int .i64 v, .int .i64 0]) ∧ Below w.heap.size w w' := by
  have hmf : ∀ (fn : Fn) (first cap : Array Value) (w : World), (Instr.makeFunc fn first cap).run Tryd.prog w = .ok (.func fn first cap) w := fun _ _ _ _ => rfl
  have HB := hidd (Blk.new w #[.int .i64 0] 2 _ rfl)
  have H0 := hidd ((Below.refl w.heap.size w).alloc (Nat.le_refl _) (.cells #[.int .i64 0] 2))
  go_enter_defers Tryd.func10, Tryd.ntmps10
  go_wp2_with fail
  refine hK.mono ?_
  rintro e w2 ⟨rfl, hb⟩
  have G := hidd (And.intro (HB.out.below hb (by omega)) (H0.out.trans (hb.mono (by omega))))
  clear hb
  have hc : w2.cell? ⟨w.heap.size, 0, none⟩ = some (.int .i64 0) := G.out.1.cell rfl
  have hz : w2.frozen? ⟨w.heap.size, 0, none⟩ = false := G.out.1.fro 0
  go_wp2
  refine leaves_cons (f := 15) (args := #[.pointer (some ⟨w.heap.size, 0, none⟩)]) (by simp) (by simp [go_sem]) ?_
  refine (catch_idle ⟨w.heap.size, 0, none⟩ _).mono ?_
  rintro e u' w'' ⟨rfl, rfl, rfl⟩
  simp [Leaves, settle, results, Tryd.results10, go_sem, hc]
  exact G.out.2.setCell (Nat.le_refl _) _
set_option maxRecDepth 100000 in
set_option maxHeartbeats 1000000 in
theorem enter_bad (K : Nat) (caps : Array Value) (a : Addr) (w : World) (heg : ∀ args w, (callFunc K args).run Tryd.prog w = .ok (.enter K args) w) (hE : Er w a)
    (hK : Calls Tryd.prog K caps (w.alloc (.cells #[.int .i64 0] 2)) fun e w2 => e = .panicked (pan a) ∧ Below (w.heap.size + 1) (w.alloc (.cells #[.int .i64 0] 2)) w2) :
    Calls Tryd.prog 10 #[.func (.func K) #[] caps] w fun e w' => e = .returned (.tuple #[.int .i64 0, .int .i64 2]) ∧ Below w.heap.size w w' := by
  have hmf : ∀ (fn : Fn) (first cap : Array Value) (w : World), (Instr.makeFunc fn first cap).run Tryd.prog w = .ok (.func fn first cap) w := fun _ _ _ _ => rfl
  have HB := hidd (Blk.new w #[.int .i64 0] 2 _ rfl)
  have H0 := hidd ((Below.refl w.heap.size w).alloc (Nat.le_refl _) (.cells #[.int .i64 0] 2))
  have HE := hidd hE
  clear hE
  go_enter_defers Tryd.func10, Tryd.ntmps10
  go_wp2_with fail
  refine hK.mono ?_
  rintro e w2 ⟨rfl, hb⟩
  have G := hidd (And.intro (HB.out.below hb (by omega)) (H0.out.trans (hb.mono (by omega))))
  clear hb
  have hc : w2.cell? ⟨w.heap.size, 0, none⟩ = some (.int .i64 0) := G.out.1.cell rfl
  have hz : w2.frozen? ⟨w.heap.size, 0, none⟩ = false := G.out.1.fro 0
  have hE2 : Er w2 a := HE.out.below G.out.2 HE.out.lt
  simp only []
  refine leaves_cons (f := 15) (args := #[.pointer (some ⟨w.heap.size, 0, none⟩)]) (by simp) (by simp [go_sem]) ?_
  refine (catch_panicking w.heap.size a 0 _ hE2 hc hz).mono ?_
  rintro e u' w'' ⟨rfl, rfl, rfl⟩
  simp [Leaves, settle, results, Tryd.results10, go_sem, hc]
  exact G.out.2.setCell (Nat.le_refl _) _
/-- All numbers of a list lie in a range. -/
def inAll (lo hi : Int) (zs : List Int) : Bool := zs.all fun z => inB z lo hi
theorem inAll_no {lo hi : Int} {zs : List Int} {j : Nat} (hj : j < zs.length) (h : inB (zs.getD j 0) lo hi = false) : inAll lo hi zs = false := by
  simp only [inAll, List.all_eq_false]
  refine ⟨zs[j], List.getElem_mem hj, ?_⟩
  have e : zs.getD j 0 = zs[j] := by simp [List.getD, hj]
  rw [e] at h; simp [h]
theorem inAll_yes {lo hi : Int} {zs : List Int} (h : ∀ j, j < zs.length → inB (zs.getD j 0) lo hi = true) : inAll lo hi zs = true := by
  simp only [inAll, List.all_eq_true]
  intro z hz
  obtain ⟨j, hj, rfl⟩ := List.getElem_of_mem hz
  have e : zs.getD j 0 = zs[j] := by simp [List.getD, hj]
  rw [← e]; exact h j hj
set_option maxRecDepth 100000 in
set_option maxHeartbeats 1000000 in
theorem must33 (lo hi : Int) (zs : List Int) (a : Option Addr) (cap : Nat) (e0 : Addr) (w : World) (hs : SlI w a zs) (hl : zs.length ≤ 9223372036854775807) (hE : Er w e0) :
    Calls Tryd.prog 12 #[.int .i64 lo, .int .i64 hi, .slice a zs.length cap] w fun e w' => e = (if inAll lo hi zs then .returned (.tuple #[]) else .panicked (pan e0)) ∧ w = w' := by
  have HS := hidd hs
  have HE : w.cell? ⟨0, 0, none⟩ = some (.iface 58 (.pointer (some e0))) := hE
  clear hs hE
  generalize hr : (if inAll lo hi zs then Ending.returned (.tuple #[]) else Ending.panicked (pan e0)) = r
  have HR := hidd hr
  clear hr
  go_enter Tryd.func12, Tryd.ntmps12
  go_wp2_with fail
  go_loop [10] (fun i => ∃ j : Nat, j ≤ zs.length ∧ i = .int .i64 j ∧ ∀ m, m < j → inB (zs.getD m 0) lo hi = true) (fun i => zs.length - (intOf i).toNat)
  case atStart => exact ⟨0, by omega, rfl, fun m hm => absurd hm (by omega)⟩
  case round =>
    obtain ⟨j, hj, rfl, hall⟩ := hrel
    have HA := hidd hall
    clear hall
    by_cases hlt : j < zs.length
    · rcases HS.out with hs | ⟨b, off, rfl, hc⟩
      · subst hs; simp at hlt
      · have hcj := hc j hlt
        obtain ⟨z, hz⟩ : ∃ z, z = zs.getD j 0 := ⟨_, rfl⟩
        rw [← hz] at hcj
        have HZ := hidd hz
        have HC := hidd hc
        clear hz hc
        cases hb : inB z lo hi with
        | true =>
          have HB := hidd hb
          clear hb
          go_wp2_with (go_at_call 8; refine (within53 _ _ _ _).mono ?_; rintro e w' ⟨rfl, rfl⟩; rw [HB.out])
          go_round
          case rel => exact ⟨j + 1, by omega, by go_num, fun m hm => by
            by_cases e : m = j
            · subst e; rw [← HZ.out]; exact HB.out
            · exact HA.out m (by omega)⟩
          case measure => simp [intOf]; omega
        | false =>
          have HB := hidd hb
          have H := hidd (inAll_no (lo := lo) (hi := hi) hlt (by rw [← HZ.out]; exact hb))
          clear hb
          go_wp2_with (go_at_call 8; refine (within53 _ _ _ _).mono ?_; rintro e w' ⟨rfl, rfl⟩; rw [HB.out])
          trace_state
          refine ⟨rfl, ?_⟩
          exact ⟨by rw [← HR.out, H.out]; rfl, rfl⟩
    · have hje : j = zs.length := by omega
      subst hje
      have H := hidd (inAll_yes (lo := lo) (hi := hi) HA.out)
      go_wp2_with fail
      go_end0
      exact ⟨by rw [← HR.out, H.out]; rfl, rfl⟩
end Go.Proofs.YtlnelmickndoaaaDoor
