/- Tests of numbers, pairs and lists, and the code of what is given. -/
import Derived.Test.YtikcmgmgdbbcfaaEdge
namespace Go.Proofs.Ytikcmgmgdbbcfaa
open Go Go.RowKit
def inB (n lo hi : Int) : Bool := decide (lo ≤ n) && decide (n ≤ hi)
theorem inB_yes {n lo hi : Int} (h1 : lo ≤ n) (h2 : n ≤ hi) : inB n lo hi = true := by simp [inB, h1, h2]
theorem inB_no {n lo hi : Int} (h : ¬ (lo ≤ n ∧ n ≤ hi)) : inB n lo hi = false := by
  simp only [inB, Bool.and_eq_false_iff, decide_eq_false_iff_not]; omega
theorem inB_bd {n lo hi : Int} (h : inB n lo hi = true) : lo ≤ n ∧ n ≤ hi := by simpa [inB] using h
theorem inB_out {n lo hi : Int} (h : inB n lo hi = false) : ¬ (lo ≤ n ∧ n ≤ hi) := by
  simp only [inB, Bool.and_eq_false_iff, decide_eq_false_iff_not] at h; omega
theorem in49 (n lo hi : Int) (w : World) : Calls Try.prog 42 #[.int .i64 n, .int .i64 lo, .int .i64 hi] w fun e w' => e = .returned (.bool (inB n lo hi)) ∧ w = w' := by
  by_cases h1 : lo ≤ n
  · by_cases h2 : n ≤ hi
    · rw [inB_yes h1 h2]; exact in49_yes n lo hi w h1 h2
    · have H := hidd (inB_no (n := n) (lo := lo) (hi := hi) (by omega))
      have hd : decide (n ≤ hi) = false := by simpa using h2
      clear h2
      go_enter Try.func42, Try.ntmps42
      go_wp2
      go_ret
      exact ⟨by rw [H.out]; rfl, rfl⟩
  · have H := hidd (inB_no (n := n) (lo := lo) (hi := hi) (by omega))
    have hd : decide (lo ≤ n) = false := by simpa using h1
    clear h1
    go_enter Try.func42, Try.ntmps42
    go_wp2
    go_ret
    exact ⟨by rw [H.out]; rfl, rfl⟩
/-- impl.isBelow -/
def belowB (n m : Int) : Bool := inB n 0 (m - 1)
theorem below61 (n m : Int) (w : World) : Calls Try.prog 97 #[.int .i64 n, .int .i64 m] w fun e w' => e = .returned (.bool (belowB n m)) ∧ w = w' := by
  by_cases h1 : 0 ≤ n
  · by_cases h2 : n < m
    · have H := hidd (show belowB n m = true from inB_yes h1 (by omega))
      go_enter Try.func97, Try.ntmps97
      go_wp2
      go_ret
      exact ⟨by rw [H.out]; rfl, rfl⟩
    · have H := hidd (show belowB n m = false from inB_no (by omega))
      have hd : decide (n < m) = false := by simpa using h2
      clear h2
      go_enter Try.func97, Try.ntmps97
      go_wp2
      go_ret
      exact ⟨by rw [H.out]; rfl, rfl⟩
  · have H := hidd (show belowB n m = false from inB_no (by omega))
    have hd : decide (0 ≤ n) = false := by simpa using h1
    clear h1
    go_enter Try.func97, Try.ntmps97
    go_wp2
    go_ret
    exact ⟨by rw [H.out]; rfl, rfl⟩
/-- impl.arePointPair -/
def pairB (i j n : Int) : Bool := belowB i n && belowB j n && decide (i ≠ j)
theorem pairB_yes {i j n : Int} (h1 : belowB i n = true) (h2 : belowB j n = true) (h3 : i ≠ j) : pairB i j n = true := by simp [pairB, h1, h2, h3]
theorem pairB_no1 {i j n : Int} (h1 : belowB i n = false) : pairB i j n = false := by simp [pairB, h1]
theorem pairB_no2 {i j n : Int} (h1 : belowB j n = false) : pairB i j n = false := by simp [pairB, h1]
theorem pairB_no3 {i n : Int} : pairB i i n = false := by simp [pairB]
theorem pairB_bd {i j n : Int} (h : pairB i j n = true) : 0 ≤ i ∧ i < n ∧ 0 ≤ j ∧ j < n ∧ i ≠ j := by
  simp only [pairB, Bool.and_eq_true, decide_eq_true_eq] at h
  obtain ⟨⟨h1, h2⟩, h3⟩ := h
  have := inB_bd h1; have := inB_bd h2
  exact ⟨by omega, by omega, by omega, by omega, h3⟩
/-- The elements of a slice of numbers lie where it leads. -/
def SlI (w : World) (a : Option Addr) (zs : List Int) : Prop := zs = [] ∨ ∃ b off, a = some ⟨b, off, none⟩ ∧ ∀ j, j < zs.length → w.cell? ⟨b, off + j, none⟩ = some (.int .i64 (zs.getD j 0))
theorem SlI.below {w w' : World} {B : Nat} {a : Option Addr} {zs : List Int} (h : SlI w a zs) (hb : Below B w w') (hB : w.heap.size ≤ B) : SlI w' a zs := by
  rcases h with h | ⟨b, off, ha, hc⟩
  · exact .inl h
  · refine .inr ⟨b, off, ha, fun j hj => ?_⟩
    have hcj := hc j hj
    have hlt := block_lt_of_cell hcj
    rw [hb.cell (p := ⟨b, off + j, none⟩) (by show b < B; exact Nat.lt_of_lt_of_le hlt hB)]; exact hcj
/-- Are all numbers of a list from 0 to k - 1? -/
def allB (zs : List Int) (k : Int) : Bool := zs.all fun z => belowB z k
theorem allB_yes {zs : List Int} {k : Int} (h : ∀ j, j < zs.length → belowB (zs.getD j 0) k = true) : allB zs k = true := by
  unfold allB
  rw [List.all_eq_true]
  intro z hz
  obtain ⟨j, hj, rfl⟩ := List.mem_iff_getElem.1 hz
  have := h j hj
  simpa [List.getD, hj] using this
theorem allB_no {zs : List Int} {k : Int} {j : Nat} (hj : j < zs.length) (h : belowB (zs.getD j 0) k = false) : allB zs k = false := by
  unfold allB
  rw [List.all_eq_false]
  refine ⟨zs[j], List.getElem_mem hj, ?_⟩
  have : zs.getD j 0 = zs[j] := by simp [List.getD, hj]
  rw [this] at h; rw [h]; simp
theorem allB_get {zs : List Int} {k : Int} (h : allB zs k = true) {j : Nat} (hj : j < zs.length) : 0 ≤ zs.getD j 0 ∧ zs.getD j 0 < k := by
  unfold allB at h
  rw [List.all_eq_true] at h
  have h1 := inB_bd (h zs[j] (List.getElem_mem hj))
  have : zs.getD j 0 = zs[j] := by simp [List.getD, hj]
  rw [this]; omega
set_option maxRecDepth 100000 in
set_option maxHeartbeats 400000 in
theorem all50 (zs : List Int) (a : Option Addr) (cap : Nat) (k : Int) (w : World) (hs : SlI w a zs) (hl : zs.length ≤ 9223372036854775807) (hk1 : 0 ≤ k) (hk2 : k ≤ 9223372036854775807) :
    Calls Try.prog 43 #[.slice a zs.length cap, .int .i64 k] w fun e w' => e = .returned (.bool (allB zs k)) ∧ w = w' := by
  go_enter Try.func43, Try.ntmps43
  go_wp2_with fail
  go_loop [5] (fun i => ∃ j : Nat, j ≤ zs.length ∧ i = .int .i64 j ∧ ∀ m, m < j → belowB (zs.getD m 0) k = true) (fun i => zs.length - (intOf i).toNat)
  case atStart => exact ⟨0, by omega, rfl, fun m hm => absurd hm (by omega)⟩
  case round =>
    obtain ⟨j, hj, rfl, hall⟩ := hrel
    have HA := hidd hall
    clear hall
    by_cases hlt : j < zs.length
    · rcases hs with hs | ⟨b, off, rfl, hc⟩
      · subst hs; simp at hlt
      · have hcj := hc j hlt
        obtain ⟨z, hz⟩ : ∃ z, z = zs.getD j 0 := ⟨_, rfl⟩
        rw [← hz] at hcj
        have HZ := hidd hz
        have HC := hidd hc
        clear hz hc
        cases hb : belowB z k with
        | true =>
          have HB := hidd (show inB z 0 (k - 1) = true from hb)
          clear hb
          go_wp2_with (go_at_call 42; refine (in49 _ _ _ _).mono ?_; rintro e w' ⟨rfl, rfl⟩; rw [HB.out])
          go_round
          case rel => exact ⟨j + 1, by omega, by go_num, fun m hm => by
            by_cases e : m = j
            · subst e; rw [← HZ.out]; exact HB.out
            · exact HA.out m (by omega)⟩
          case measure => simp [intOf]; omega
        | false =>
          have HB := hidd (show inB z 0 (k - 1) = false from hb)
          have H := hidd (allB_no hlt (by rw [← HZ.out]; exact hb))
          clear hb
          go_wp2_with (go_at_call 42; refine (in49 _ _ _ _).mono ?_; rintro e w' ⟨rfl, rfl⟩; rw [HB.out])
          go_ret
          exact ⟨by rw [H.out]; rfl, rfl⟩
    · have hje : j = zs.length := by omega
      subst hje
      have H := hidd (allB_yes HA.out)
      go_wp2_with fail
      go_ret
      exact ⟨by rw [H.out]; rfl, rfl⟩
end Go.Proofs.Ytikcmgmgdbbcfaa
