/- TriangleBound, both sides. -/
import Derived.Test.YtblehhiojednhaaDoorMtr
import Derived.Laws.EntriesVeiled
namespace Go.Proofs.YtblehhiojednhaaDoor
set_option linter.unusedVariables false
set_option linter.unusedSimpArgs false
open Go Go.RowKit Go.Maps
theorem grown_below {w W w' : World} {mb : Nat} (h : Below w.heap.size w W) (hg : W.grownBy w' (some mb)) (hm : w.heap.size ≤ mb) : Below w.heap.size w w' :=
  h.grown hg h.size (fun k hk => by cases hk; exact hm)
set_option maxRecDepth 100000 in
set_option maxHeartbeats 1000000 in
theorem by49 (k : Nat) (h1 : 1 ≤ k) (h10 : k ≤ 10) (w : World) :
    Calls Tryd.prog 49 #[.func (.func 50) #[] #[], .int .i64 (k : Int)] w fun e w' => e = .returned (.int .i64 (triV k)) ∧ Below w.heap.size w w' := by
  have hmf : ∀ (fn : Fn) (first cap : Array Value) (w : World), (Instr.makeFunc fn first cap).run Tryd.prog w = .ok (.func fn first cap) w := fun _ _ _ _ => rfl
  have hmm := @run_makeMap Tryd.prog
  have heg := ent59
  obtain ⟨W, hW⟩ : ∃ W, W = ((((w.alloc (.cells #[.func (.func 50) #[] #[]] 51)).alloc (.map #[] 0)).alloc (.cells #[.map (some (w.heap.size + 1))] 62)).alloc (.cells #[.func (.func 59) #[] #[.pointer (some ⟨w.heap.size + 1 + 1, 0, none⟩), .pointer (some ⟨w.heap.size, 0, none⟩), .pointer (some ⟨w.heap.size + 1 + 1 + 1, 0, none⟩)]] 48)) := ⟨_, rfl⟩
  have hlo : Below w.heap.size w W := by rw [hW]; exact ((((Below.refl w.heap.size w).alloc (Nat.le_refl _) _).alloc (by simp) _).alloc (by simp; omega) _).alloc (by simp; omega) _
  have hrb : W.cell? ⟨w.heap.size, 0, none⟩ = some (.func (.func 50) #[] #[]) := by rw [hW]; exact cell_past (cell_past (cell_past ((Blk.new w #[.func (.func 50) #[] #[]] 51 _ rfl).cell rfl) _) _) _
  have hmb : W.ownsMap Tryd.prog 2 (plainElem (H := Unit) Tryd.prog 2) (w.heap.size + 1) 0 (.map []) := by
    rw [hW]
    have h := World.ownsMap_made (w.alloc (.cells #[.func (.func 50) #[] #[]] 51)) Tryd.prog 2 (plainElem (H := Unit) Tryd.prog 2)
    have e : (w.alloc (.cells #[.func (.func 50) #[] #[]] 51)).heap.size = w.heap.size + 1 := by simp
    rw [e] at h
    exact (h.alloc _).alloc _
  have hkb : W.cell? ⟨w.heap.size + 1 + 1, 0, none⟩ = some (.map (some (w.heap.size + 1))) := by rw [hW]; exact cell_past ((Blk.new _ #[.map (some (w.heap.size + 1))] 62 _ (by simp)).cell rfl) _
  have hbb : W.cell? ⟨w.heap.size + 1 + 1 + 1, 0, none⟩ = some (.func (.func 59) #[] #[.pointer (some ⟨w.heap.size + 1 + 1, 0, none⟩), .pointer (some ⟨w.heap.size, 0, none⟩), .pointer (some ⟨w.heap.size + 1 + 1 + 1, 0, none⟩)]) := by rw [hW]; exact (Blk.new _ _ 48 _ (by simp)).cell rfl
  have HM := hidd (memo59 (w.heap.size + 1 + 1) w.heap.size (w.heap.size + 1 + 1 + 1) (w.heap.size + 1) (by omega) (by omega) (by omega) k h1 h10 0 W (by omega) ⟨_, hmb, right_empty _⟩ hkb hrb hbb)
  have HL := hidd hlo
  have HW := hidd hW
  clear hW hlo hrb hmb hkb hbb
  go_enter Tryd.func49, Tryd.ntmps49
  go_wp2_with fail
  rw [← HW.out]
  refine HM.out.mono ?_
  rintro e w1 ⟨rfl, D, _, _, hg⟩
  have HB := hidd (grown_below HL.out hg (by omega))
  clear hg
  go_wp2
  go_ret
  exact ⟨rfl, HB.out⟩
/-- The bound of triangles of a number. -/
def triI (m : Int) : Int := triV m.toNat
set_option maxRecDepth 100000 in
set_option maxHeartbeats 1000000 in
theorem spec27 (m : Int) (w : World) : Calls Tryd.prog 27 #[.int .i64 m] w fun e w' => e = .returned (.tuple #[.int .i64 (if inB m 1 10 then triI m else 0), .int .i64 (if inB m 1 10 then 0 else 2)]) ∧ Below w.heap.size w w' := by
  have H0 := hidd (Below.refl w.heap.size w)
  cases hc : inB m 1 10 with
  | false =>
    have HC := hidd hc
    clear hc
    go_enter Tryd.func27, Tryd.ntmps27
    go_wp2_with (go_at_call 29; refine (in49 _ _ _ _).mono ?_; rintro e w' ⟨rfl, rfl⟩; rw [HC.out])
    all_goals (go_ret2; exact ⟨by simp, H0.out⟩)
  | true =>
    have hm := inB_bd hc
    have HC := hidd hc
    clear hc
    obtain ⟨k, rfl⟩ : ∃ k : Nat, m = (k : Int) := ⟨m.toNat, by omega⟩
    go_enter Tryd.func27, Tryd.ntmps27
    go_wp2_with (go_at_call 29; refine (in49 _ _ _ _).mono ?_; rintro e w' ⟨rfl, rfl⟩; rw [HC.out])
    go_loop [4, 5] (fun o i => ∃ j : Nat, 1 ≤ j ∧ j ≤ k ∧ i = .int .i64 ((j : Int) + 1) ∧ o = .int .i64 (triV j)) (fun o i => k + 1 - (intOf i).toNat)
    case atStart => exact ⟨1, by omega, by omega, rfl, rfl⟩
    case round =>
      obtain ⟨j, hj1, hj, rfl, rfl⟩ := hrel
      by_cases hlt : j < k
      · have hv := triV_bd j (by omega)
        have HV := hidd (triV_step (k := j + 1) (by omega) (by omega))
        obtain ⟨s, hs⟩ : ∃ s, s = triV j := ⟨_, rfl⟩
        have HS := hidd hs
        rw [← hs] at hv ⊢
        clear hs
        have hm1 : 0 ≤ ((j : Int) + 1) * s := Int.mul_nonneg (by omega) hv.1
        have hm2 : ((j : Int) + 1) * s ≤ 1000000000 := Int.le_trans (Int.mul_le_mul (show (j : Int) + 1 ≤ 10 by omega) hv.2 hv.1 (by omega)) (by omega)
        go_wp2_with fail
        refine ⟨⟨j + 1, by omega, by omega, by go_num, ?_⟩, by simp [intOf]; omega⟩
        rw [HV.out, show j + 1 - 1 = j by omega, ← HS.out]
        rfl
      · have hje : j = k := by omega
        subst hje
        go_wp2_with fail
        go_ret2
        exact ⟨rfl, H0.out⟩
theorem ent48 (args : Array Value) (w : World) : (callFunc 48 args).run Tryd.prog w = .ok (.enter 48 args) w := by kernel_rfl
set_option maxRecDepth 100000 in
set_option maxHeartbeats 1000000 in
theorem clo48 (m : Int) (p : Nat) (e0 : Addr) (w : World) (hp : w.cell? ⟨p, 0, none⟩ = some (.int .i64 m)) (hE : Er w e0) :
    Calls Tryd.prog 48 #[.pointer (some ⟨p, 0, none⟩)] w fun e w' => e = (if inB m 1 10 then .returned (.int .i64 (triI m)) else .panicked (pan e0)) ∧ Below w.heap.size w w' := by
  have HN := hidd ((Below.refl w.heap.size w).alloc (Nat.le_refl _) (.cells #[.int .i64 m] 2))
  have HM := hidd (must1 1 10 m w.heap.size e0 _ (Blk.new w #[.int .i64 m] 2 _ rfl) (hE.alloc _))
  have hp2 := cell_past hp (.cells #[.int .i64 m] 2)
  clear hE
  cases hc : inB m 1 10 with
  | false =>
    have HC := hidd hc
    clear hc
    go_enter Tryd.func48, Tryd.ntmps48
    go_wp2_with fail
    refine HM.out.mono ?_
    rintro e w1 ⟨rfl, rfl⟩
    rw [HC.out]
    exact ⟨rfl, rfl, HN.out⟩
  | true =>
    have HL := hidd (inB_bd hc)
    have HC := hidd hc
    clear hc
    go_enter Tryd.func48, Tryd.ntmps48
    go_wp2_with fail
    refine HM.out.mono ?_
    rintro e w1 ⟨rfl, rfl⟩
    rw [HC.out]
    obtain ⟨k, rfl⟩ : ∃ k : Nat, m = (k : Int) := ⟨m.toNat, by have := HL.out; omega⟩
    have HY := hidd (fun w => by49 k (by have := HL.out; omega) (by have := HL.out; omega) w)
    go_wp2_with fail
    refine (HY.out _).mono ?_
    rintro e w2 ⟨rfl, hb2⟩
    have HZ := hidd (HN.out.trans (hb2.mono HN.out.size))
    clear hb2
    go_wp2
    go_ret
    exact ⟨rfl, HZ.out⟩
set_option maxRecDepth 100000 in
set_option maxHeartbeats 1000000 in
theorem impl28 (m : Int) (e0 : Addr) (w : World) (hE : Er w e0) :
    Calls Tryd.prog 28 #[.int .i64 m] w fun e w' => e = .returned (.tuple #[.int .i64 (if inB m 1 10 then triI m else 0), .int .i64 (if inB m 1 10 then 0 else 2)]) ∧ Below w.heap.size w w' := by
  have hmf : ∀ (fn : Fn) (first cap : Array Value) (w : World), (Instr.makeFunc fn first cap).run Tryd.prog w = .ok (.func fn first cap) w := fun _ _ _ _ => rfl
  obtain ⟨W, hW⟩ : ∃ W, W = w.alloc (.cells #[.int .i64 m] 2) := ⟨_, rfl⟩
  have hsz : W.heap.size = w.heap.size + 1 := by rw [hW]; simp
  have hlo : Below w.heap.size w W := by rw [hW]; exact (Below.refl w.heap.size w).alloc (Nat.le_refl _) _
  have hE1 : Er W e0 := by rw [hW]; exact hE.alloc _
  have hA1 : W.cell? ⟨w.heap.size, 0, none⟩ = some (.int .i64 m) := by rw [hW]; exact (Blk.new w #[.int .i64 m] 2 _ rfl).cell rfl
  have hE2 : Er (W.alloc (.cells #[.int .i64 0] 2)) e0 := hE1.alloc _
  have hK := clo48 m w.heap.size e0 (W.alloc (.cells #[.int .i64 0] 2)) (cell_past hA1 _) hE2
  have HW := hidd hW
  have HL := hidd (And.intro hlo hsz)
  cases hc : inB m 1 10 with
  | false =>
    rw [hc] at hK
    have HI := hidd (enter_bad 48 #[.pointer (some ⟨w.heap.size, 0, none⟩)] e0 W ent48 hE1 (hK.mono fun e w2 h => ⟨h.1, h.2.mono (by simp)⟩))
    clear hW hK hE1 hA1 hE2 hE hc hlo hsz
    go_enter Tryd.func28, Tryd.ntmps28
    go_wp2_with fail
    rw [← HW.out]
    refine HI.out.mono ?_
    rintro e w1 ⟨rfl, hb⟩
    have HB := hidd (HL.out.1.trans (hb.mono (by have := HL.out.2; omega)))
    clear hb
    go_wp2
    go_ret2
    exact ⟨rfl, HB.out⟩
  | true =>
    rw [hc] at hK
    have HI := hidd (enter_ok 48 #[.pointer (some ⟨w.heap.size, 0, none⟩)] (triI m) W ent48 (hK.mono fun e w2 h => ⟨h.1, h.2.mono (by simp)⟩))
    clear hW hK hE1 hA1 hE2 hE hc hlo hsz
    go_enter Tryd.func28, Tryd.ntmps28
    go_wp2_with fail
    rw [← HW.out]
    refine HI.out.mono ?_
    rintro e w1 ⟨rfl, hb⟩
    have HB := hidd (HL.out.1.trans (hb.mono (by have := HL.out.2; omega)))
    clear hb
    go_wp2
    go_ret2
    exact ⟨rfl, HB.out⟩
end Go.Proofs.YtblehhiojednhaaDoor
