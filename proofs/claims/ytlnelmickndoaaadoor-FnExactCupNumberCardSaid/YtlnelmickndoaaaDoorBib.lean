/- BinomialBound, both sides. -/
import Derived.Test.YtlnelmickndoaaaDoorBmm
import Derived.Laws.EntriesVeiled
namespace Go.Proofs.YtlnelmickndoaaaDoor
set_option linter.unusedVariables false
set_option linter.unusedSimpArgs false
open Go Go.RowKit Go.Maps Go.ChangeMaps
theorem grown_below2 {w W w' : World} {mb : Nat} (h : Below w.heap.size w W) (hg : W.grownBy w' (some mb)) (hm : w.heap.size ≤ mb) : Below w.heap.size w w' :=
  h.grown hg h.size (fun k hk => by cases hk; exact hm)
set_option maxRecDepth 100000 in
set_option maxHeartbeats 1000000 in
theorem by34 (a b : Int) (ha : in16 a) (hb : in16 b) (w : World) :
    Calls Tryd.prog 13 #[.func (.func 14) #[] #[], .agg #[.int .i64 a, .int .i64 b]] w fun e w' => e = .returned (.int .i64 (binV a b)) ∧ Below w.heap.size w w' := by
  have hmf : ∀ (fn : Fn) (first cap : Array Value) (w : World), (Instr.makeFunc fn first cap).run Tryd.prog w = .ok (.func fn first cap) w := fun _ _ _ _ => rfl
  have hmm := @run_makeMap Tryd.prog
  have heg := ent54
  obtain ⟨W0, hW0⟩ : ∃ W0, W0 = (w.alloc (.cells #[.func (.func 14) #[] #[]] 32)).alloc (.cells #[.int .i64 a, .int .i64 b] 31) := ⟨_, rfl⟩
  have hs0 : W0.heap.size = w.heap.size + 1 + 1 := by rw [hW0]; simp
  have hl0 : Below w.heap.size w W0 := by rw [hW0]; exact ((Below.refl w.heap.size w).alloc (Nat.le_refl _) _).alloc (by simp) _
  have hr0 : W0.cell? ⟨w.heap.size, 0, none⟩ = some (.func (.func 14) #[] #[]) := by rw [hW0]; exact cell_past ((Blk.new w #[.func (.func 14) #[] #[]] 32 _ rfl).cell rfl) _
  obtain ⟨W, hW⟩ : ∃ W, W = ((W0.alloc (.map #[] 0)).alloc (.cells #[.map (some (w.heap.size + 1 + 1))] 39)).alloc (.cells #[.func (.func 17) #[] #[.pointer (some ⟨w.heap.size + 1 + 1 + 1, 0, none⟩), .pointer (some ⟨w.heap.size, 0, none⟩), .pointer (some ⟨w.heap.size + 1 + 1 + 1 + 1, 0, none⟩)]] 40) := ⟨_, rfl⟩
  have hlo : Below w.heap.size w W := by
    rw [hW]
    exact ((hl0.alloc (by omega) _).alloc (by simp; omega) _).alloc (by simp; omega) _
  have hS : StB (w.heap.size + 1 + 1 + 1) w.heap.size (w.heap.size + 1 + 1 + 1 + 1) (w.heap.size + 1 + 1) W := by
    rw [hW]
    refine ⟨?_, ?_, ?_, ?_, by omega, by omega, by omega⟩
    · have h := good_new (kt := 31) binR keysP (w := W0)
      rw [hs0] at h
      exact (h.alloc _).alloc _
    · exact cell_past ((Blk.new _ #[.map (some (w.heap.size + 1 + 1))] 39 _ (by simp [hs0])).cell rfl) _
    · exact cell_past (cell_past (cell_past hr0 _) _) _
    · exact (Blk.new _ _ 40 _ (by simp [hs0])).cell rfl
  have HM := hidd (memo54 _ _ _ _ (a + b).toNat a b ha hb (Nat.le_refl _) W hS)
  have HL := hidd hlo
  have HW := hidd (show W = ((((w.alloc (.cells #[.func (.func 14) #[] #[]] 32)).alloc (.cells #[.int .i64 a, .int .i64 b] 31)).alloc (.map #[] 0)).alloc (.cells #[.map (some (w.heap.size + 1 + 1))] 39)).alloc (.cells #[.func (.func 17) #[] #[.pointer (some ⟨w.heap.size + 1 + 1 + 1, 0, none⟩), .pointer (some ⟨w.heap.size, 0, none⟩), .pointer (some ⟨w.heap.size + 1 + 1 + 1 + 1, 0, none⟩)]] 40) by rw [hW, hW0])
  clear hW hlo hS hW0 hs0 hl0 hr0 ha hb
  go_enter Tryd.func13, Tryd.ntmps13
  go_wp2_with fail
  rw [← HW.out]
  refine HM.out.mono ?_
  rintro e w1 ⟨rfl, _, hg⟩
  have HB := hidd (grown_below2 HL.out hg (by omega))
  clear hg
  go_wp2
  go_ret
  exact ⟨rfl, HB.out⟩
theorem ent32 (args : Array Value) (w : World) : (callFunc 11 args).run Tryd.prog w = .ok (.enter 11 args) w := by kernel_rfl
set_option maxRecDepth 100000 in
set_option maxHeartbeats 1000000 in
theorem clo32 (a b : Int) (p q : Nat) (e0 : Addr) (w : World) (hp : w.cell? ⟨p, 0, none⟩ = some (.int .i64 a)) (hq : w.cell? ⟨q, 0, none⟩ = some (.int .i64 b)) (hE : Er w e0) :
    Calls Tryd.prog 11 #[.pointer (some ⟨p, 0, none⟩), .pointer (some ⟨q, 0, none⟩)] w fun e w' => e = (if inB a 1 16 && inB b 1 16 then .returned (.int .i64 (binV a b)) else .panicked (pan e0)) ∧ Below w.heap.size w w' := by
  have HN := hidd ((Below.refl w.heap.size w).alloc (Nat.le_refl _) (.cells #[.int .i64 a, .int .i64 b] 2))
  have HM := hidd (must2 1 16 a b w.heap.size e0 _ (Blk.new w #[.int .i64 a, .int .i64 b] 2 _ rfl) (hE.alloc _))
  have hp2 := cell_past hp (.cells #[.int .i64 a, .int .i64 b] 2)
  have hq2 := cell_past hq (.cells #[.int .i64 a, .int .i64 b] 2)
  clear hE
  cases hc : (inB a 1 16 && inB b 1 16) with
  | false =>
    have HC := hidd hc
    clear hc
    go_enter Tryd.func11, Tryd.ntmps11
    go_wp2_with fail
    refine HM.out.mono ?_
    rintro e w1 ⟨rfl, rfl⟩
    rw [HC.out]
    exact ⟨rfl, rfl, HN.out⟩
  | true =>
    have h1 := inB_bd (Bool.and_eq_true_iff.1 hc).1
    have h2 := inB_bd (Bool.and_eq_true_iff.1 hc).2
    have HC := hidd hc
    clear hc
    go_enter Tryd.func11, Tryd.ntmps11
    go_wp2_with fail
    refine HM.out.mono ?_
    rintro e w1 ⟨rfl, rfl⟩
    rw [HC.out]
    have HY := hidd (fun w => by34 a b h1 h2 w)
    go_wp2_with fail
    refine (HY.out _).mono ?_
    rintro e w2 ⟨rfl, hb2⟩
    have HX := hidd (HN.out.trans (hb2.mono HN.out.size))
    clear hb2
    go_wp2
    go_ret
    exact ⟨rfl, HX.out⟩
set_option maxRecDepth 100000 in
set_option maxHeartbeats 1000000 in
theorem impl12 (a b : Int) (e0 : Addr) (w : World) (hE : Er w e0) :
    Calls Tryd.prog 9 #[.int .i64 a, .int .i64 b] w fun e w' => e = .returned (.tuple #[.int .i64 (if inB a 1 16 && inB b 1 16 then binV a b else 0), .int .i64 (if inB a 1 16 && inB b 1 16 then 0 else 2)]) ∧ Below w.heap.size w w' := by
  have hmf : ∀ (fn : Fn) (first cap : Array Value) (w : World), (Instr.makeFunc fn first cap).run Tryd.prog w = .ok (.func fn first cap) w := fun _ _ _ _ => rfl
  obtain ⟨W, hW⟩ : ∃ W, W = (w.alloc (.cells #[.int .i64 a] 2)).alloc (.cells #[.int .i64 b] 2) := ⟨_, rfl⟩
  have hsz : W.heap.size = w.heap.size + 2 := by rw [hW]; simp
  have hlo : Below w.heap.size w W := by rw [hW]; exact ((Below.refl w.heap.size w).alloc (Nat.le_refl _) _).alloc (by simp) _
  have hE1 : Er W e0 := by rw [hW]; exact (hE.alloc _).alloc _
  have hA1 : W.cell? ⟨w.heap.size, 0, none⟩ = some (.int .i64 a) := by rw [hW]; exact cell_past ((Blk.new w #[.int .i64 a] 2 _ rfl).cell rfl) _
  have hB1 : W.cell? ⟨w.heap.size + 1, 0, none⟩ = some (.int .i64 b) := by rw [hW]; exact (Blk.new _ #[.int .i64 b] 2 _ (by simp)).cell rfl
  have hE2 : Er (W.alloc (.cells #[.int .i64 0] 2)) e0 := hE1.alloc _
  have hK := clo32 a b w.heap.size (w.heap.size + 1) e0 (W.alloc (.cells #[.int .i64 0] 2)) (cell_past hA1 _) (cell_past hB1 _) hE2
  cases hc : (inB a 1 16 && inB b 1 16) with
  | false =>
    rw [hc] at hK
    have HI := hidd (enter_bad 11 #[.pointer (some ⟨w.heap.size, 0, none⟩), .pointer (some ⟨w.heap.size + 1, 0, none⟩)] e0 W ent32 hE1 (hK.mono fun e w2 h => ⟨h.1, h.2.mono (by simp)⟩))
    have HW := hidd hW
    have HL := hidd (And.intro hlo hsz)
    clear hW hK hE1 hA1 hB1 hE2 hE hc hlo hsz
    go_enter Tryd.func9, Tryd.ntmps9
    go_wp2_with fail
    rw [← HW.out]
    refine HI.out.mono ?_
    rintro e w1 ⟨rfl, hb⟩
    have HB := hidd (HL.out.1.trans (hb.mono (by have := HL.out.2; omega)))
    clear hb
    go_wp2
    go_ret2
    exact ⟨rfl, HB.out⟩
  | true =>
    rw [hc] at hK
    have HI := hidd (enter_ok 11 #[.pointer (some ⟨w.heap.size, 0, none⟩), .pointer (some ⟨w.heap.size + 1, 0, none⟩)] (binV a b) W ent32 (hK.mono fun e w2 h => ⟨h.1, h.2.mono (by simp)⟩))
    have HW := hidd hW
    have HL := hidd (And.intro hlo hsz)
    clear hW hK hE1 hA1 hB1 hE2 hE hc hlo hsz
    go_enter Tryd.func9, Tryd.ntmps9
    go_wp2_with fail
    rw [← HW.out]
    refine HI.out.mono ?_
    rintro e w1 ⟨rfl, hb⟩
    have HB := hidd (HL.out.1.trans (hb.mono (by have := HL.out.2; omega)))
    clear hb
    go_wp2
    go_ret2
    exact ⟨rfl, HB.out⟩
end Go.Proofs.YtlnelmickndoaaaDoor

