/- slices.Repeat of one number: a list of as many as told. -/
import Derived.Test.YtmeihpakbhfipaaDoorOri
import Derived.Laws.CopyOwn
namespace Go.Proofs.YtmeihpakbhfipaaDoor
set_option linter.unusedVariables false
set_option linter.unusedSimpArgs false
open Go Go.RowKit Go.Shelf
attribute [local go_sem] Oper.semAt_some
set_option maxRecDepth 100000 in
set_option maxHeartbeats 4000000 in
theorem mul67 (N : Nat) (h1 : 1 ≤ N) (h2 : N ≤ 17) (w : World) : Calls Tryd.prog 67 #[.int .u64 1, .int .u64 (N : Int)] w fun e w' => e = .returned (.tuple #[.int .u64 0, .int .u64 (N : Int)]) ∧ w = w' := by
  have hN : N = 1 ∨ N = 2 ∨ N = 3 ∨ N = 4 ∨ N = 5 ∨ N = 6 ∨ N = 7 ∨ N = 8 ∨ N = 9 ∨ N = 10 ∨ N = 11 ∨ N = 12 ∨ N = 13 ∨ N = 14 ∨ N = 15 ∨ N = 16 ∨ N = 17 := by omega
  clear h1 h2
  rcases hN with rfl | rfl | rfl | rfl | rfl | rfl | rfl | rfl | rfl | rfl | rfl | rfl | rfl | rfl | rfl | rfl | rfl
  all_goals
    go_enter Tryd.func67, Tryd.ntmps67
    go_wp2
    go_ret2
    exact ⟨rfl, rfl⟩
set_option maxRecDepth 100000 in
set_option maxHeartbeats 1000000 in
theorem mul60 (N : Nat) (h1 : 1 ≤ N) (h2 : N ≤ 17) (w : World) : Calls Tryd.prog 60 #[.int .u64 1, .int .u64 (N : Int)] w fun e w' => e = .returned (.tuple #[.int .u64 0, .int .u64 (N : Int)]) ∧ w = w' := by
  have HM := hidd (mul67 N h1 h2 w)
  go_enter Tryd.func60, Tryd.ntmps60
  go_wp2_with fail
  refine HM.out.mono ?_
  rintro e _ ⟨rfl, rfl⟩
  go_wp2_with fail
  go_ret2
  exact ⟨rfl, rfl⟩
/-- The first n numbers are one. -/
def rpL (N n : Nat) : List Value := icells (fl N fun q => if q < n then 1 else 0)
theorem rpL_zero (N : Nat) : (rpL N 0).toArray = zrow N := by
  rw [zrow_icells]; unfold rpL; congr 2; apply List.ext_getElem <;> simp [fl]
theorem rpL_len (N n : Nat) : (rpL N n).length = N := by simp [rpL, icells, fl]
theorem rpL_get {N n q : Nat} (h : q < N) : (rpL N n)[q]? = some (.int .i64 (if q < n then 1 else 0)) := by simp [rpL, icells, fl, h]
def onV (m : Nat) : List Value := List.replicate m (.int .i64 1)
theorem onV_len (m : Nat) : (onV m).length = m := by simp [onV]
theorem onV_one (m : Nat) : ∀ v ∈ onV m, v.oneCell' = true := fun v hv => by rw [List.eq_of_mem_replicate hv]; rfl
theorem onV_get {m j : Nat} {v : Value} (h : (onV m)[j]? = some v) : j < m ∧ v = .int .i64 1 := by
  unfold onV at h
  rw [List.getElem?_replicate] at h
  split at h
  · rename_i hj; exact ⟨hj, (Option.some.inj h).symm⟩
  · cases h
theorem rpL_splice {N n m : Nat} (h : n + m ≤ N) : splice (rpL N n) n (onV m) = rpL N (n + m) := by
  unfold onV
  apply List.ext_getElem?
  intro q
  unfold splice
  by_cases hq : q < N
  · rw [rpL_get hq]
    by_cases h1 : q < n
    · rw [List.getElem?_append_left (by simp [rpL_len]; omega), List.getElem?_take, if_pos h1, rpL_get hq]
      simp [h1, show q < n + m by omega]
    · rw [List.getElem?_append_right (by simp [rpL_len]; omega)]
      have hl : ((rpL N n).take n).length = n := by simp [rpL_len]; omega
      rw [hl]
      by_cases h2 : q < n + m
      · rw [List.getElem?_append_left (by simp; omega), List.getElem?_replicate, if_pos (by omega)]
        simp [h2]
      · rw [List.getElem?_append_right (by simp; omega), List.getElem?_drop]
        simp only [List.length_replicate]
        rw [show n + m + (q - n - m) = q by omega, rpL_get hq]
        simp [h1, h2]
  · rw [List.getElem?_eq_none (by simp [rpL_len]; omega), List.getElem?_eq_none (by rw [rpL_len]; omega)]
/-- What a copy asks of its source. -/
def SrcOk (dp : Option Addr) (g off : Nat) (sp : Option Addr) (w : World) (cs : List Value) : Prop := 0 < cs.length → dp = some ⟨g, off, none⟩ ∧ ∃ ad, sp = some ad ∧ ∀ j v, cs[j]? = some v → w.cell? (ad.add j) = some v
theorem size2 : (Tryd.prog.info? 2).map (·.size) = some 1 := by kernel_rfl
def RelRp (N n : Nat) (w wr : World) : Prop := wr.heap[w.heap.size]? = some (.cells (rpL N n).toArray 2 (0, 0)) ∧ Below w.heap.size w wr
theorem RelRp.cell {N n q : Nat} {w wr : World} (h : RelRp N n w wr) (hq : q < N) : wr.cell? ⟨w.heap.size, q, none⟩ = some (.int .i64 (if q < n then 1 else 0)) :=
  (show Blk wr w.heap.size (rpL N n).toArray 2 from h.1).cell (by simpa using rpL_get hq)
set_option maxRecDepth 100000 in
set_option maxHeartbeats 2000000 in
theorem repeat45 (N : Nat) (h1 : 1 ≤ N) (h2 : N ≤ 17) (b o cap : Nat) (w : World) (hx : w.cell? ⟨b, o, none⟩ = some (.int .i64 1)) :
    Calls Tryd.prog 45 #[.slice (some ⟨b, o, none⟩) 1 cap, .int .i64 (N : Int)] w fun e w' => e = .returned (.slice (some ⟨w.heap.size, 0, none⟩) N N) ∧ Blk w' w.heap.size (icells (fl N fun _ => 1)).toArray 2 ∧ Below w.heap.size w w' := by
  have HM := hidd (mul60 N h1 h2 w)
  have hmk := make29 N (by omega)
  have HB := hidd (show RelRp N 0 w (w.alloc (.cells (zrow N) 2)) from ⟨by rw [rpL_zero]; exact Blk.new _ _ _ _ rfl, (Below.refl _ _).alloc (Nat.le_refl _) _⟩)
  have hx2 : (w.alloc (.cells (zrow N) 2)).cell? ⟨b, o, none⟩ = some (.int .i64 1) := (HB.out.2.cell (p := ⟨b, o, none⟩) (block_lt_of_cell hx)).trans hx
  have HX := hidd hx2
  clear hx hx2
  go_enter Tryd.func45, Tryd.ntmps45
  go_wp2_with fail
  refine HM.out.mono ?_
  rintro e _ ⟨rfl, rfl⟩
  have HC2 := hidd (show SrcOk (some ⟨w.heap.size, 0, none⟩) w.heap.size 0 (some ⟨b, o, none⟩) (w.alloc (.cells (zrow N) 2)) (onV 1) from
    fun _ => ⟨rfl, _, rfl, fun j v hv => by
      obtain ⟨hj, rfl⟩ := onV_get hv
      obtain rfl : j = 0 := by omega
      simpa [Addr.add] using HX.out⟩)
  go_wp2_with (refine wpList_copy_splice rfl (.tmp 31) (.tmp 32) 25 25 rfl 2 Tryd.underlying25 size2 (some ⟨w.heap.size, 0, none⟩) (some ⟨b, o, none⟩) N N 1 cap rfl rfl w.heap.size 0 (rpL N 0) 2 HB.out.1 (onV 1) (by rw [onV_len]; exact (Nat.min_eq_left h1).symm) HC2.out (by rw [onV_len, rpL_len]; omega) (onV_one 1) w.heap.size w HB.out.2 (Nat.le_refl _) ?_)
  intro w2 hg2 hb2
  have HR1 := hidd (show RelRp N 1 w w2 from ⟨by have h := hg2.out; rw [rpL_splice (by omega)] at h; exact h, hb2⟩)
  clear hg2 hb2
  go_wp2_with fail
  go_loopw [8] (fun e wr => ∃ n : Nat, 1 ≤ n ∧ n ≤ N ∧ e = .int .i64 (n : Int) ∧ RelRp N n w wr) (fun e _ => N - (intOf e).toNat)
  case atStart => exact ⟨1, Nat.le_refl _, h1, by rw [onV_len], HR1.out⟩
  case round =>
    obtain ⟨n, hn1, hn, rfl, HR⟩ := hrel
    have HK := hidd HR
    clear HR
    by_cases hlt : n < N
    · have hne : ¬ N = n := by omega
      have hn0 : ¬ n = 0 := by omega
      obtain ⟨m, hm⟩ : ∃ m, m = min n (N - n) := ⟨_, rfl⟩
      have hm1 : 1 ≤ m := by omega
      have hmN : n + m ≤ N := by omega
      have hmn : m ≤ n := by omega
      have HM2 := hidd (show (onV m).length = Nat.min n (N - n) by rw [onV_len, hm])
      have HC := hidd (fun wX (h : RelRp N n w wX) => (show SrcOk (some ⟨w.heap.size, n, none⟩) w.heap.size n (some ⟨w.heap.size, 0, none⟩) wX (onV m) from
        fun _ => ⟨rfl, _, rfl, fun j v hv => by
          obtain ⟨hj, rfl⟩ := onV_get hv
          have h1 := h.cell (q := j) (by omega)
          rw [if_pos (by omega)] at h1
          rw [Addr.add_mid, Nat.zero_add]
          exact h1⟩))
      have hol : (onV m).length = m := onV_len m
      have hwr : IntKind.i64.wrap ((n : Int) + (m : Int)) = (n : Int) + (m : Int) := IntWalk.i64_in _ (by omega)
      clear hm
      go_wp2_with fail
      refine wp_region_held_drew (S := (fun W => RelRp N n w W ∨ True)) (by kernel_rfl) ?_ (fun hHeld => ?_)
      · exact .inr trivial
      refine wpAnyH_take (i := 0) (oi := _) (v := ?_) rfl (by kernel_rfl) (by kernel_rfl) (by kernel_rfl) (fun _ _ _ h => h) (Or.inl ⟨by rfl, ?_⟩) (by assumption) ?_
      rotate_left
      · intro wX hSw; (try dsimp only at hSw); go_simp; first | done | with_reducible rfl
      simp only [List.getElem_toArray, List.getElem_cons_succ, List.getElem_cons_zero, Act.put, List.setIfInBounds_toArray, List.set_cons_zero, List.set_cons_succ]
      refine wpAnyH_take (i := 1) (oi := _) (v := ?_) rfl (by kernel_rfl) (by kernel_rfl) (by kernel_rfl) (fun _ _ _ h => h) (Or.inl ⟨by rfl, ?_⟩) (by assumption) ?_
      rotate_left
      · intro wX hSw; (try dsimp only at hSw); go_simp; first | done | with_reducible rfl
      simp only [List.getElem_toArray, List.getElem_cons_succ, List.getElem_cons_zero, Act.put, List.setIfInBounds_toArray, List.set_cons_zero, List.set_cons_succ]
      refine wpAnyH_take (i := 2) (oi := _) (v := ?_) rfl (by kernel_rfl) (by kernel_rfl) (by kernel_rfl) (fun _ _ _ h => h) (Or.inl ⟨by rfl, ?_⟩) (by assumption) ?_
      rotate_left
      · intro wX hSw; (try dsimp only at hSw); go_simp; first | done | with_reducible rfl
      simp only [List.getElem_toArray, List.getElem_cons_succ, List.getElem_cons_zero, Act.put, List.setIfInBounds_toArray, List.set_cons_zero, List.set_cons_succ]
      refine wpAnyH_take (i := 3) (oi := _) (v := ?_) rfl (by kernel_rfl) (by kernel_rfl) (by kernel_rfl) (fun _ _ _ h => h) (Or.inl ⟨by rfl, ?_⟩) (by assumption) ?_
      rotate_left
      · intro wX hSw; (try dsimp only at hSw); go_simp; first | done | with_reducible rfl
      simp only [List.getElem_toArray, List.getElem_cons_succ, List.getElem_cons_zero, Act.put, List.setIfInBounds_toArray, List.set_cons_zero, List.set_cons_succ]
      refine wpAnyH_take (i := 4) (oi := _) (v := ?_) rfl (by kernel_rfl) (by kernel_rfl) (by kernel_rfl) (fun _ _ _ h => h) (Or.inl ⟨by rfl, ?_⟩) (by assumption) ?_
      rotate_left
      · intro wX hSw; (try dsimp only at hSw); go_simp; first | done | with_reducible rfl
      simp only [List.getElem_toArray, List.getElem_cons_succ, List.getElem_cons_zero, Act.put, List.setIfInBounds_toArray, List.set_cons_zero, List.set_cons_succ]
      refine wpAnyH_take (i := 5) (oi := _) (v := ?_) rfl (by kernel_rfl) (by kernel_rfl) (by kernel_rfl) (fun _ _ _ h => h) (Or.inl ⟨by rfl, ?_⟩) (by assumption) ?_
      rotate_left
      · intro wX hSw; (try dsimp only at hSw); go_simp; first | done | with_reducible rfl
      simp only [List.getElem_toArray, List.getElem_cons_succ, List.getElem_cons_zero, Act.put, List.setIfInBounds_toArray, List.set_cons_zero, List.set_cons_succ]
      refine wpAnyH_take (i := 6) (oi := _) (v := ?_) rfl (by kernel_rfl) (by kernel_rfl) (by kernel_rfl) (fun _ _ _ h => h) (Or.inl ⟨by rfl, ?_⟩) (by assumption) ?_
      rotate_left
      · intro wX hSw; (try dsimp only at hSw); go_simp; first | done | with_reducible rfl
      simp only [List.getElem_toArray, List.getElem_cons_succ, List.getElem_cons_zero, Act.put, List.setIfInBounds_toArray, List.set_cons_zero, List.set_cons_succ]
      refine wpAnyH_ready (rs := [7]) (by kernel_rfl) (by simp) (AllReadyH.cons (o := _) rfl (fun KQ hKQ => ?_) AllReadyH.nil)
      refine step_copy_splice rfl (.tmp 41) (.tmp 44) 25 25 rfl 2 Tryd.underlying25 size2 (some ⟨w.heap.size, n, none⟩) (some ⟨w.heap.size, 0, none⟩) (N - n) (N - n) n N rfl rfl w.heap.size n (rpL N n) 2 HK.out.1 (onV m) HM2.out (HC.out _ (show RelRp N n w wr.drew from ⟨HK.out.1, HK.out.2.trans (Below.refl _ _).drew⟩)) (by rw [onV_len, rpL_len]; omega) (onV_one m) w.heap.size w (HK.out.2.trans (Below.refl _ _).drew) (Nat.le_refl _) ?_
      intro w3 hg3 hb3
      have HR3 := hidd (show RelRp N (n + m) w w3 from ⟨by have h := hg3.out; rw [rpL_splice hmN] at h; exact h, hb3⟩)
      clear hg3 hb3
      rw [onV_len]
      refine hKQ.out _ _ (.inr trivial) (fun hNext => ?_)
      clear hKQ KQ hHeld
      have hHeld := hNext
      clear hNext
      (try simp only [List.getElem_toArray, List.getElem_cons_succ, List.getElem_cons_zero, Act.put, List.setIfInBounds_toArray, List.set_cons_zero, List.set_cons_succ])
      refine wpAnyH_take (i := 8) (oi := _) (v := ?_) rfl (by kernel_rfl) (by kernel_rfl) (by kernel_rfl) (fun _ _ _ h => h) (Or.inl ⟨by rfl, ?_⟩) (by assumption) ?_
      rotate_left
      · intro wX hSw; (try dsimp only at hSw); go_simp; first | done | with_reducible rfl
      simp only [List.getElem_toArray, List.getElem_cons_succ, List.getElem_cons_zero, Act.put, List.setIfInBounds_toArray, List.set_cons_zero, List.set_cons_succ]
      refine wpAnyH_take (i := 9) (oi := _) (v := ?_) rfl (by kernel_rfl) (by kernel_rfl) (by kernel_rfl) (fun _ _ _ h => h) (Or.inl ⟨by rfl, ?_⟩) (by assumption) ?_
      rotate_left
      · intro wX hSw; (try dsimp only at hSw); go_simp; first | done | with_reducible rfl
      simp only [List.getElem_toArray, List.getElem_cons_succ, List.getElem_cons_zero, Act.put, List.setIfInBounds_toArray, List.set_cons_zero, List.set_cons_succ]
      refine wpAnyH_done (by kernel_rfl) ?_ _
      clear hHeld
      go_wp2_with fail
      go_roundw
      case rel => exact ⟨_, _, _, _, _, _, _, _, _, _, _, _, _, _, ⟨n + m, by omega, hmN, by go_num, HR3.out⟩, rfl⟩
      case measure => simp [intOf]; omega
    · obtain rfl : n = N := by omega
      have HF := hidd (show Blk wr w.heap.size (icells (fl n fun _ => 1)).toArray 2 by
        have h := HK.out.1
        have e : rpL n n = icells (fl n fun _ => 1) := by unfold rpL; rw [fl_congr (fun q hq => if_pos hq)]
        rw [e] at h
        exact h)
      go_wp2_with fail
      go_ret
      exact ⟨rfl, HF.out, HK.out.2⟩
end Go.Proofs.YtmeihpakbhfipaaDoor
