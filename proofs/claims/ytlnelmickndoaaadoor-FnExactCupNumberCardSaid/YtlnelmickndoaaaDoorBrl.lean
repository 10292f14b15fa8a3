/- binomialRule. -/
import Derived.Test.YtlnelmickndoaaaDoorBin
import Derived.Test.YtlnelmickndoaaaDoorQs
namespace Go.Proofs.YtlnelmickndoaaaDoor
set_option linter.unusedVariables false
set_option linter.unusedSimpArgs false
open Go Go.RowKit Go.Maps Go.ChangeMaps
theorem ent35 (args : Array Value) (w : World) : (callFunc 14 args).run Tryd.prog w = .ok (.enter 14 args) w := by kernel_rfl
theorem ent54 (args : Array Value) (w : World) : (callFunc 17 args).run Tryd.prog w = .ok (.enter 17 args) w := by kernel_rfl
/-- What the closure holds on to. -/
def capsB (kb rb bb : Nat) : Array Value := #[.pointer (some ⟨kb, 0, none⟩), .pointer (some ⟨rb, 0, none⟩), .pointer (some ⟨bb, 0, none⟩)]
/-- The state in which the closure is called. -/
structure StB (kb rb bb mb : Nat) (w : World) : Prop where
  good : Good 31 binR keysP mb w
  k : w.cell? ⟨kb, 0, none⟩ = some (.map (some mb))
  r : w.cell? ⟨rb, 0, none⟩ = some (.func (.func 14) #[] #[])
  b : w.cell? ⟨bb, 0, none⟩ = some (.func (.func 17) #[] #[.pointer (some ⟨kb, 0, none⟩), .pointer (some ⟨rb, 0, none⟩), .pointer (some ⟨bb, 0, none⟩)])
  n1 : kb ≠ mb
  n2 : rb ≠ mb
  n3 : bb ≠ mb
theorem Good.lt {kt : TypeId} {R : Lit → Int → Prop} {L : List Lit} {mb : Nat} {w : World} (h : Good kt R L mb w) : mb < w.heap.size := by
  obtain ⟨D, h1, _⟩ := h; exact h1.lt
theorem StB.alloc {kb rb bb mb : Nat} {w : World} (h : StB kb rb bb mb w) (o : Obj) : StB kb rb bb mb (w.alloc o) :=
  ⟨h.good.alloc o, cell_past h.k o, cell_past h.r o, cell_past h.b o, h.n1, h.n2, h.n3⟩
theorem wrapI {n : Int} (h : -9223372036854775808 ≤ n ∧ n ≤ 9223372036854775807) : IntKind.i64.wrap n = n := by rw [IntKind.wrap_i64]; omega
theorem StB.drew {kb rb bb mb : Nat} {w : World} (h : StB kb rb bb mb w) : StB kb rb bb mb w.drew := ⟨h.good.drew, h.k, h.r, h.b, h.n1, h.n2, h.n3⟩
theorem grown_drew (w : World) (row : Option Nat) : w.grownBy w.drew row := ⟨rfl, rfl, rfl, Nat.le_refl _, fun _ _ _ => rfl⟩
theorem StB.left {kb rb bb mb : Nat} {w w' : World} (h : StB kb rb bb mb w) (hg : Good 31 binR keysP mb w') (hw : w.grownBy w' (some mb)) : StB kb rb bb mb w' :=
  ⟨hg, hw.cell h.k (by simp [h.n1]), hw.cell h.r (by simp [h.n2]), hw.cell h.b (by simp [h.n3]), h.n1, h.n2, h.n3⟩
/-- What a call leaves. -/
def LfB (mb : Nat) (w w' : World) : Prop := Good 31 binR keysP mb w' ∧ w.grownBy w' (some mb)
set_option maxRecDepth 100000 in
set_option maxHeartbeats 2000000 in
theorem rule35 (a b : Int) (ha : in16 a) (hb : in16 b) (kb rb bb mb : Nat) (w : World) (hS : StB kb rb bb mb w)
    (h1 : a ≠ 1 → ∀ W, StB kb rb bb mb W → Calls Tryd.prog 17 #[.agg #[.int .i64 (a - 1), .int .i64 b], .pointer (some ⟨kb, 0, none⟩), .pointer (some ⟨rb, 0, none⟩), .pointer (some ⟨bb, 0, none⟩)] W fun e w' => e = .returned (.int .i64 (binV (a - 1) b)) ∧ LfB mb W w')
    (h2 : b ≠ 1 → ∀ W, StB kb rb bb mb W → Calls Tryd.prog 17 #[.agg #[.int .i64 a, .int .i64 (b - 1)], .pointer (some ⟨kb, 0, none⟩), .pointer (some ⟨rb, 0, none⟩), .pointer (some ⟨bb, 0, none⟩)] W fun e w' => e = .returned (.int .i64 (binV a (b - 1))) ∧ LfB mb W w') :
    Calls Tryd.prog 14 #[.agg #[.int .i64 a, .int .i64 b], .func (.func 17) #[] #[.pointer (some ⟨kb, 0, none⟩), .pointer (some ⟨rb, 0, none⟩), .pointer (some ⟨bb, 0, none⟩)]] w fun e w' => e = .returned (.int .i64 (binV a b)) ∧ LfB mb w w' := by
  have heg := ent54
  have HT := hidd (bin_at ha hb)
  have HS := hidd hS
  have HN := hidd (fun (o : Obj) => World.grownBy_alloc w o (some mb))
  have hab : 1 ≤ a ∧ a ≤ 16 := ha
  have hbb : 1 ≤ b ∧ b ≤ 16 := hb
  by_cases e1 : a = 1
  · subst e1
    have HV := hidd (show binV 1 b = 1 by have := HT.out.1; simpa using this)
    clear h1 h2 ha hb hS
    go_enter Tryd.func14, Tryd.ntmps14
    go_wp2
    go_ret
    exact ⟨by rw [HV.out]; rfl, (HS.out.alloc _).good, HN.out _⟩
  by_cases e2 : b = 1
  · subst e2
    have HV := hidd (show binV a 1 = 1 by have := HT.out.1; simpa using this)
    have f1 : (a == 1) = false := by simpa using e1
    clear h1 h2 ha hb hS
    go_enter Tryd.func14, Tryd.ntmps14
    go_wp2
    go_ret
    exact ⟨by rw [HV.out]; rfl, (HS.out.alloc _).good, HN.out _⟩
  · have f1 : (a == 1) = false := by simpa using e1
    have f2 : (b == 1) = false := by simpa using e2
    have HI1 := hidd (h1 e1)
    have HI2 := hidd (h2 e2)
    have HA1 := hidd (bin_at (a := a - 1) (b := b) ⟨by omega, by omega⟩ hb).2
    have HA2 := hidd (bin_at (a := a) (b := b - 1) ha ⟨by omega, by omega⟩).2
    have HV := hidd (show binV a b = binV (a - 1) b + binV a (b - 1) by have := HT.out.1; rw [if_neg (by omega)] at this; exact this)
    obtain ⟨x1, hx1⟩ : ∃ x1, x1 = binV (a - 1) b := ⟨_, rfl⟩
    obtain ⟨x2, hx2⟩ : ∃ x2, x2 = binV a (b - 1) := ⟨_, rfl⟩
    rw [← hx1] at HI1 HV
    rw [← hx2] at HI2 HV
    have b1 : 0 ≤ x1 ∧ x1 ≤ 200000000 := by rw [hx1]; exact ⟨HA1.out.1, HA1.out.2.1⟩
    have b2 : 0 ≤ x2 ∧ x2 ≤ 200000000 := by rw [hx2]; exact ⟨HA2.out.1, HA2.out.2.1⟩
    obtain ⟨W1, hW1⟩ : ∃ W1, W1 = w.alloc (.cells #[.int .i64 a, .int .i64 b] 31) := ⟨_, rfl⟩
    have HS1 := hidd (show StB kb rb bb mb W1 by rw [hW1]; exact HS.out.alloc _)
    have HG1 := hidd (show w.grownBy W1 (some mb) by rw [hW1]; exact HN.out _)
    have HB1 := hidd (show Blk W1 w.heap.size #[.int .i64 a, .int .i64 b] 31 by rw [hW1]; exact Blk.new _ _ _ _ rfl)
    have HM := hidd (show some w.heap.size ≠ some mb by have := HS.out.good.lt; simp; omega)
    have HC0 := hidd (fun (W' : World) (hg : W1.grownBy W' (some mb)) => hg.cell (a := ⟨w.heap.size, 0, none⟩) (HB1.out.cell rfl) HM.out)
    have HC1 := hidd (fun (W' : World) (hg : W1.grownBy W' (some mb)) => hg.cell (a := ⟨w.heap.size, 1, none⟩) (HB1.out.cell rfl) HM.out)
    have HW1 := hidd hW1
    have w1 := wrapI (n := a - 1) (by omega)
    have w2 := wrapI (n := b - 1) (by omega)
    have w3 := wrapI (n := x1 + x2) (by omega)
    clear h1 h2 ha hb hS hx1 hx2 HA1 HA2 hW1
    go_enter Tryd.func14, Tryd.ntmps14
    go_wp2_with fail
    rw [← HW1.out]
    refine wp_region_quiet_at (fun w' => StB kb rb bb mb w' ∧ W1.grownBy w' (some mb)) rfl (by kernel_rfl) ⟨HS1.out.drew, grown_drew _ _⟩ ?_
    refine qs rfl (fun KQ hKQ => ?_)
    apply Exists.intro
    refine ⟨fun w' hw' => ?_, ?_⟩
    · go_simp; exact rfl
    go_simp
    refine hKQ _ ?_
    clear hKQ KQ
    refine qs rfl (fun KQ hKQ => ?_)
    apply Exists.intro
    refine ⟨fun w' hw' => ?_, ?_⟩
    · go_simp; exact rfl
    go_simp
    refine hKQ _ ?_
    clear hKQ KQ
    refine qs rfl (fun KQ hKQ => ?_)
    apply Exists.intro
    refine ⟨fun w' hw' => ?_, ?_⟩
    · have c0 := HC0.out _ hw'.2; go_simp; exact rfl
    go_simp
    refine hKQ _ ?_
    clear hKQ KQ
    refine qs rfl (fun KQ hKQ => ?_)
    apply Exists.intro
    refine ⟨fun w' hw' => ?_, ?_⟩
    · go_simp; exact rfl
    go_simp
    refine hKQ _ ?_
    clear hKQ KQ
    refine qs rfl (fun KQ hKQ => ?_)
    apply Exists.intro
    refine ⟨fun w' hw' => ?_, ?_⟩
    · go_simp; exact rfl
    go_simp
    refine hKQ _ ?_
    clear hKQ KQ
    refine qs rfl (fun KQ hKQ => ?_)
    apply Exists.intro
    refine ⟨fun w' hw' => ?_, ?_⟩
    · have c1 := HC1.out _ hw'.2; go_simp; exact rfl
    go_simp
    refine hKQ _ ?_
    clear hKQ KQ
    refine qs rfl (fun KQ hKQ => ?_)
    apply Exists.intro
    refine ⟨fun w' hw' => ?_, ?_⟩
    · go_simp; exact rfl
    go_simp
    refine hKQ _ ?_
    clear hKQ KQ
    refine qs rfl (fun KQ hKQ => ?_)
    apply Exists.intro
    refine ⟨fun w' hw' => ?_, ?_⟩
    · go_simp; exact (HI1.out _ hw'.1).mono fun _ _ h => ⟨h.1, hw'.1.left h.2.1 h.2.2, hw'.2.trans h.2.2⟩
    go_simp
    refine hKQ _ ?_
    clear hKQ KQ
    refine qs rfl (fun KQ hKQ => ?_)
    apply Exists.intro
    refine ⟨fun w' hw' => ?_, ?_⟩
    · go_simp; exact rfl
    go_simp
    refine hKQ _ ?_
    clear hKQ KQ
    refine qs rfl (fun KQ hKQ => ?_)
    apply Exists.intro
    refine ⟨fun w' hw' => ?_, ?_⟩
    · go_simp; exact rfl
    go_simp
    refine hKQ _ ?_
    clear hKQ KQ
    refine qs rfl (fun KQ hKQ => ?_)
    apply Exists.intro
    refine ⟨fun w' hw' => ?_, ?_⟩
    · have c0 := HC0.out _ hw'.2; go_simp; exact rfl
    go_simp
    refine hKQ _ ?_
    clear hKQ KQ
    refine qs rfl (fun KQ hKQ => ?_)
    apply Exists.intro
    refine ⟨fun w' hw' => ?_, ?_⟩
    · go_simp; exact rfl
    go_simp
    refine hKQ _ ?_
    clear hKQ KQ
    refine qs rfl (fun KQ hKQ => ?_)
    apply Exists.intro
    refine ⟨fun w' hw' => ?_, ?_⟩
    · have c1 := HC1.out _ hw'.2; go_simp; exact rfl
    go_simp
    refine hKQ _ ?_
    clear hKQ KQ
    refine qs rfl (fun KQ hKQ => ?_)
    apply Exists.intro
    refine ⟨fun w' hw' => ?_, ?_⟩
    · go_simp; exact rfl
    go_simp
    refine hKQ _ ?_
    clear hKQ KQ
    refine qs rfl (fun KQ hKQ => ?_)
    apply Exists.intro
    refine ⟨fun w' hw' => ?_, ?_⟩
    · go_simp; exact rfl
    go_simp
    refine hKQ _ ?_
    clear hKQ KQ
    refine qs rfl (fun KQ hKQ => ?_)
    apply Exists.intro
    refine ⟨fun w' hw' => ?_, ?_⟩
    · go_simp; exact (HI2.out _ hw'.1).mono fun _ _ h => ⟨h.1, hw'.1.left h.2.1 h.2.2, hw'.2.trans h.2.2⟩
    go_simp
    refine hKQ _ ?_
    clear hKQ KQ
    refine qs rfl (fun KQ hKQ => ?_)
    apply Exists.intro
    refine ⟨fun w' hw' => ?_, ?_⟩
    · go_simp; exact rfl
    go_simp
    refine hKQ _ ?_
    clear hKQ KQ
    refine qs rfl (fun KQ hKQ => ?_)
    apply Exists.intro
    refine ⟨fun w' hw' => ?_, ?_⟩
    · go_simp; exact rfl
    go_simp
    refine hKQ _ ?_
    clear hKQ KQ
    refine wpQuiet_nil ?_
    intro w' hw'
    have HZ := hidd (And.intro hw'.1.good (HG1.out.trans hw'.2))
    clear hw'
    go_wp2_with fail
    go_ret
    refine ⟨?_, HZ.out⟩
    rw [HV.out]
    trace_state
    first | rfl | (simp [w3])
end Go.Proofs.YtlnelmickndoaaaDoor
