/- slices.Max, slices.Index, and slices.IndexFunc of the length that is asked. -/
import Derived.Test.YtmeihpakbhfipaaDoorLfj
namespace Go.Proofs.YtmeihpakbhfipaaDoor
set_option linter.unusedVariables false
set_option linter.unusedSimpArgs false
open Go Go.RowKit Go.Shelf
attribute [local go_sem] Oper.semAt_some
set_option maxRecDepth 100000 in
theorem max50 (N : Nat) (f : Nat → Int) (hN : 1 ≤ N) (hl : N ≤ 17) (hf : ∀ q, q < N → 1 ≤ f q) (b : Nat) (w : World) (hB : Blk w b (icells (fl N f)).toArray 2) :
    Calls Tryd.prog 50 #[.slice (some ⟨b, 0, none⟩) N N] w fun e w' => e = .returned (.int .i64 (mxL f N)) ∧ w = w' := by
  have HB := hidd hB
  have hc0 := fl_cell hB (show 0 < N by omega)
  have HF := hidd (hf 0 (by omega))
  obtain ⟨z0, hz0⟩ : ∃ z, z = f 0 := ⟨_, rfl⟩
  rw [← hz0] at hc0
  have HZ0 := hidd hz0
  have hd : decide ((N : Int) < 1) = false := by simp; omega
  have hp : (0 : Int) < (N : Int) := by omega
  clear hz0 hB hf
  go_enter Tryd.func50, Tryd.ntmps50
  go_wp2_with fail
  go_loop [3, 4] (fun m i => ∃ (j : Nat), 1 ≤ j ∧ j ≤ N ∧ i = .int .i64 j ∧ m = .int .i64 (mxL f j)) (fun _ i => N - (intOf i).toNat)
  case atStart => exact ⟨1, by omega, hN, rfl, by
    have h := HF.out
    congr 1
    rw [HZ0.out, mxL, mxL]; omega⟩
  case round =>
    obtain ⟨j, hj1, hj, rfl, rfl⟩ := hrel
    by_cases hlt : j < N
    · have hcj := fl_cell HB.out hlt
      have HST := hidd (show mxL f (j + 1) = max (mxL f j) (f j) from rfl)
      obtain ⟨z, hz⟩ : ∃ z, z = f j := ⟨_, rfl⟩
      obtain ⟨y, hy⟩ : ∃ y, y = mxL f j := ⟨_, rfl⟩
      rw [← hz] at hcj HST
      rw [← hy] at HST ⊢
      clear hz hy
      go_wp2_with fail
      go_round
      case rel => exact ⟨j + 1, by omega, by omega, by go_num, by congr 1; rw [HST.out]; split <;> omega⟩
      case measure => simp [intOf]; omega
    · obtain rfl : j = N := by omega
      go_wp2_with fail
      go_ret
      exact ⟨rfl, rfl⟩
set_option maxRecDepth 100000 in
theorem index51 (N : Nat) (f : Nat → Int) (i : Nat) (x : Int) (hi : i < N) (hx : f i = x) (hn : ∀ j, j < i → f j ≠ x) (hl : N ≤ 17) (b : Nat) (w : World) (hB : Blk w b (icells (fl N f)).toArray 2) :
    Calls Tryd.prog 51 #[.slice (some ⟨b, 0, none⟩) N N, .int .i64 x] w fun e w' => e = .returned (.int .i64 (i : Int)) ∧ w = w' := by
  have HB := hidd hB
  have HX := hidd hx
  have HN := hidd hn
  clear hB hx hn
  go_enter Tryd.func51, Tryd.ntmps51
  go_wp2_with fail
  go_loop [8] (fun e => ∃ j : Nat, j ≤ i ∧ e = .int .i64 j) (fun e => N - (intOf e).toNat)
  case atStart => exact ⟨0, by omega, rfl⟩
  case round =>
    obtain ⟨j, hj, rfl⟩ := hrel
    have hlt : j < N := by omega
    have hcj := fl_cell HB.out hlt
    obtain ⟨z, hz⟩ : ∃ z, z = f j := ⟨_, rfl⟩
    rw [← hz] at hcj
    have HZ := hidd hz
    clear hz
    by_cases he : j = i
    · have heq : (x == z) = true := by rw [HZ.out, he, HX.out]; simp
      subst he
      go_wp2_with fail
      go_ret
      exact ⟨rfl, rfl⟩
    · have heq : (x == z) = false := by rw [beq_eq_false_iff_ne, HZ.out]; exact fun h => HN.out j (by omega) h.symm
      have hji : j < i := by omega
      clear he hj
      go_wp2_with fail
      go_round
      case rel => exact ⟨j + 1, by omega, by go_num⟩
      case measure => simp [intOf]; omega
set_option maxRecDepth 100000 in
theorem has53 (N : Nat) (f : Nat → Int) (hl : N ≤ 17) (b p1 p2 : Nat) (x : Int) (q : Nat) (hq : q < N) (w : World) (hB : Blk w b (icells (fl N f)).toArray 2) (h1 : w.cell? ⟨p1, 0, none⟩ = some (.slice (some ⟨b, 0, none⟩) N N)) (h2 : w.cell? ⟨p2, 0, none⟩ = some (.int .i64 x)) :
    Calls Tryd.prog 53 #[.int .i64 (q : Int), .pointer (some ⟨p1, 0, none⟩), .pointer (some ⟨p2, 0, none⟩)] w fun e w' => e = .returned (.bool (f q == x)) ∧ Below w.heap.size w w' := by
  have hcq := fl_cell hB hq
  have hqN : (q : Int) < (N : Int) := by omega
  obtain ⟨z, hz⟩ : ∃ z, z = f q := ⟨_, rfl⟩
  rw [← hz] at hcq ⊢
  clear hz hB
  go_enter Tryd.func53, Tryd.ntmps53
  go_wp2_with fail
  refine wp_region_quiet_at (fun w' => Below w.heap.size w w') rfl (by kernel_rfl) ((Below.refl _ _).drew) ?_
  refine qs rfl (fun KQ hKQ => ?_)
  apply Exists.intro
  refine ⟨fun w' hw' => ?_, ?_⟩
  · have hc := (hw'.cell (p := ⟨p1, 0, none⟩) (block_lt_of_cell h1)).trans h1; go_simp; exact rfl
  go_simp
  refine hKQ _ ?_
  clear hKQ KQ
  refine qs rfl (fun KQ hKQ => ?_)
  apply Exists.intro
  refine ⟨fun w' hw' => ?_, ?_⟩
  · go_simp; exact rfl
  go_simp
  refine hKQ _ ?_
  clear hKQ KQ
  refine qs rfl (fun KQ hKQ => ?_)
  apply Exists.intro
  refine ⟨fun w' hw' => ?_, ?_⟩
  · go_simp; exact rfl
  go_simp
  refine hKQ _ ?_
  clear hKQ KQ
  refine qs rfl (fun KQ hKQ => ?_)
  apply Exists.intro
  refine ⟨fun w' hw' => ?_, ?_⟩
  · have hc := (hw'.cell (p := ⟨b, q, none⟩) (block_lt_of_cell hcq)).trans hcq; go_simp; exact rfl
  go_simp
  refine hKQ _ ?_
  clear hKQ KQ
  refine qs rfl (fun KQ hKQ => ?_)
  apply Exists.intro
  refine ⟨fun w' hw' => ?_, ?_⟩
  · have hc := (hw'.cell (p := ⟨p2, 0, none⟩) (block_lt_of_cell h2)).trans h2; go_simp; exact rfl
  go_simp
  refine hKQ _ ?_
  clear hKQ KQ
  refine qs rfl (fun KQ hKQ => ?_)
  apply Exists.intro
  refine ⟨fun w' hw' => ?_, ?_⟩
  · go_simp; exact rfl
  go_simp
  refine hKQ _ ?_
  clear hKQ KQ
  refine qs rfl (fun KQ hKQ => ?_)
  apply Exists.intro
  refine ⟨fun w' hw' => ?_, ?_⟩
  · go_simp; exact rfl
  go_simp
  refine hKQ _ ?_
  clear hKQ KQ
  refine wpQuiet_nil ?_
  intro w' hw'
  have HW := hidd hw'
  clear hw' hcq h1 h2
  go_wp2_with fail
  go_ret
  exact ⟨rfl, HW.out⟩
set_option maxRecDepth 100000 in
set_option maxHeartbeats 1000000 in
theorem indexf52 (N : Nat) (f : Nat → Int) (hl : N ≤ 17) (b p1 p2 : Nat) (x : Int) (zs : List Int) (a : Option Addr) (cap i : Nat) (hi : i < zs.length) (hzl : zs.length ≤ 17) (hz : ∀ j, j < zs.length → ∃ q : Nat, zs.getD j 0 = (q : Int) ∧ q < N)
    (hx : f (zs.getD i 0).toNat = x) (hn : ∀ j, j < i → f (zs.getD j 0).toNat ≠ x) (w : World) (hs : SlI w a zs) (hB : Blk w b (icells (fl N f)).toArray 2) (h1 : w.cell? ⟨p1, 0, none⟩ = some (.slice (some ⟨b, 0, none⟩) N N)) (h2 : w.cell? ⟨p2, 0, none⟩ = some (.int .i64 x)) :
    Calls Tryd.prog 52 #[.slice a zs.length cap, .func (.func 53) #[] #[.pointer (some ⟨p1, 0, none⟩), .pointer (some ⟨p2, 0, none⟩)]] w fun e w' => e = .returned (.int .i64 (i : Int)) ∧ Below w.heap.size w w' := by
  have HZ := hidd hz
  have HX := hidd hx
  have HN := hidd hn
  have HF := hidd (fun (q : Nat) (hq : q < N) (wX : World) (hb : Below w.heap.size w wX) => has53 N f hl b p1 p2 x q hq wX (hB.below hb hB.lt) ((hb.cell (p := ⟨p1, 0, none⟩) (block_lt_of_cell h1)).trans h1) ((hb.cell (p := ⟨p2, 0, none⟩) (block_lt_of_cell h2)).trans h2))
  rcases hs with hz0 | ⟨bz, off, rfl, hcz⟩
  · rw [hz0] at hi; simp at hi
  have HC := hidd hcz
  clear hz hx hn hB h1 h2 hcz
  go_enter Tryd.func52, Tryd.ntmps52
  go_wp2_with fail
  go_loopw [8] (fun e wr => ∃ j : Nat, j ≤ i ∧ e = .int .i64 j ∧ Below w.heap.size w wr) (fun e _ => zs.length - (intOf e).toNat)
  case atStart => exact ⟨0, by omega, rfl, Below.refl _ _⟩
  case round =>
    obtain ⟨j, hj, rfl, hbr⟩ := hrel
    have hlt : j < zs.length := by omega
    have HBR := hidd hbr
    have hcj := (hbr.cell (p := ⟨bz, off + j, none⟩) (block_lt_of_cell (HC.out j hlt))).trans (HC.out j hlt)
    obtain ⟨q, hq, hqN⟩ := HZ.out j hlt
    have HQ := hidd (show f (zs.getD j 0).toNat = f q by rw [hq, Int.toNat_natCast])
    rw [hq] at hcj
    clear hq hbr
    go_wp2_with fail
    refine (HF.out q hqN _ HBR.out).mono ?_
    rintro e w2 ⟨rfl, hb2⟩
    have HB2 := hidd (HBR.out.trans (hb2.mono HBR.out.size))
    clear hb2 hcj
    by_cases he : j = i
    · have heq : (f q == x) = true := by rw [← HQ.out, he, HX.out]; simp
      rw [heq]
      clear heq
      subst he
      go_wp2_with fail
      go_ret
      exact ⟨rfl, HB2.out⟩
    · have heq : (f q == x) = false := by rw [beq_eq_false_iff_ne, ← HQ.out]; exact HN.out j (by omega)
      have hji : j < i := by omega
      rw [heq]
      clear he hj heq
      go_wp2_with fail
      go_roundw
      case rel => exact ⟨j + 1, by omega, by go_num, HB2.out⟩
      case measure => simp [intOf]; omega
end Go.Proofs.YtmeihpakbhfipaaDoor
