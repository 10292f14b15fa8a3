/- l10Chain: the model. -/
import Derived.Test.YtljlbonoohhhdaaCch
namespace Go.Proofs.Ytljlbonoohhhdaa
set_option linter.unusedVariables false
set_option linter.unusedSimpArgs false
open Go Go.RowKit Go.Shelf
attribute [local go_sem] Oper.semAt_some
def rwV (n : Nat) (A : Nat → Nat) (j : Nat) : List Value := (List.range j).map fun i => .slice (some ⟨A i, 0, none⟩) n n
theorem rwV_len (n : Nat) (A : Nat → Nat) (j : Nat) : (rwV n A j).length = j := by simp [rwV]
/-- The rows that are made. -/
def RelAp (n : Nat) (w : World) (j : Nat) (v : Value) (wr : World) : Prop :=
  ∃ A : Nat → Nat, wr.ownsRow w.heap.size 22 1 v j (rwV n A j) ∧ (∀ i, i < j → Blk wr (A i) (icells (fl n fun _ => 0)).toArray 2) ∧ (∀ i i', i < j → i' < j → A i = A i' → i = i') ∧ (∀ i, i < j → w.heap.size ≤ A i) ∧ Below w.heap.size w wr
theorem blk_types {w : World} {b : Nat} {C D : Array Value} {t u : TypeId} (h : Blk w b C t) (k : Blk w b D u) : t = u := by
  unfold Blk at h k
  rw [h] at k
  cases k; rfl
theorem own_blk22 {w : World} {B n : Nat} {v : Value} {xs : List Value} (h : w.ownsRow B 22 1 v n xs) : ∀ g, v.ownBlock = some g → ∃ C, Blk w g C 22 := by
  intro g hg
  obtain ⟨_, h2 | ⟨g', cap, cur, hv, hb, hc, r⟩⟩ := h
  · rw [h2.1] at hg; cases hg
  · rw [hv] at hg; cases hg; exact ⟨cur, hc⟩
theorem RelAp.step {n j : Nat} {w wr w2 : World} {v v' : Value} {A : Nat → Nat} {o : Obj} (hA : wr.ownsRow w.heap.size 22 1 v j (rwV n A j)) (h2 : ∀ i, i < j → Blk wr (A i) (icells (fl n fun _ => 0)).toArray 2)
    (h3 : ∀ i i', i < j → i' < j → A i = A i' → i = i') (h4 : ∀ i, i < j → w.heap.size ≤ A i) (h5 : Below w.heap.size w wr)
    (hown : w2.ownsRow w.heap.size 22 1 v' (j + 1) (rwV n A j ++ [.slice (some ⟨wr.heap.size, 0, none⟩) n n])) (hg : ((wr.alloc (.cells (icells (fl n fun _ => 0)).toArray 2)).alloc o).grownBy w2 v.ownBlock) : RelAp n w (j + 1) v' w2 := by
  obtain ⟨A', hA'⟩ : ∃ A' : Nat → Nat, A' = fun i => if i < j then A i else wr.heap.size := ⟨_, rfl⟩
  have e1 : ∀ i, i < j → A' i = A i := fun i hi => by rw [hA']; simp [hi]
  have e2 : A' j = wr.heap.size := by rw [hA']; simp
  have hb : Below w.heap.size wr w2 := by
    have h0 : (wr.alloc (.cells (icells (fl n fun _ => 0)).toArray 2)).ownsRow w.heap.size 22 1 v j (rwV n A j) := hA.alloc _
    exact ((Below.refl _ _).alloc h5.size _).trans (grown_step h0 hg (by have := h5.size; simp; omega))
  have keep : ∀ b, b < wr.heap.size + 1 → (∀ C, ¬ Blk wr b C 22) → w2.heap[b]? = (wr.alloc (.cells (icells (fl n fun _ => 0)).toArray 2)).heap[b]? := fun b hlt hne => by
    have h := hg.block b (by simp; omega) (fun e => by
      obtain ⟨C, hC⟩ := own_blk22 hA b e.symm
      exact hne C hC)
    rw [h]
    exact Below.heap_alloc _ _ _ (by simpa using hlt)
  refine ⟨A', ?_, fun i hi => ?_, fun i i' hi hi' e => ?_, fun i hi => ?_, h5.trans hb⟩
  · have : rwV n A' (j + 1) = rwV n A j ++ [.slice (some ⟨wr.heap.size, 0, none⟩) n n] := by
      unfold rwV
      rw [List.range_succ, List.map_append, List.map_cons, List.map_nil, e2]
      congr 1
      exact List.map_congr_left fun i hi => by rw [e1 i (List.mem_range.1 hi)]
    rw [this]; exact hown
  · by_cases e : i < j
    · rw [e1 i e]
      have hB := h2 i e
      exact (keep (A i) (by have := hB.lt; omega) (fun C hC => absurd (blk_types hB hC) (by decide))).trans (hB.alloc _)
    · obtain rfl : i = j := by omega
      rw [e2]
      exact (keep wr.heap.size (by omega) (fun C hC => by have := Blk.lt hC; omega)).trans (Blk.new _ _ _ _ rfl)
  · by_cases e3 : i < j
    · by_cases e4 : i' < j
      · rw [e1 i e3, e1 i' e4] at e; exact h3 i i' e3 e4 e
      · obtain rfl : i' = j := by omega
        rw [e1 i e3, e2] at e
        have := (h2 i e3).lt; omega
    · obtain rfl : i = j := by omega
      by_cases e4 : i' < i
      · rw [e1 i' e4, e2] at e
        have := (h2 i' e4).lt; omega
      · omega
  · by_cases e : i < j
    · rw [e1 i e]; exact h4 i e
    · obtain rfl : i = j := by omega
      rw [e2]; exact h5.size
/-- All rows made: where they lie. -/
theorem RelAp.out {n : Nat} {w wr : World} {v : Value} (h : RelAp n w n v wr) (h1 : 1 ≤ n) (V : Nat → Nat → Int) : ∃ g cap A, v = .slice (some ⟨g, 0, none⟩) n cap ∧ Apt n g A w ∧ RelRw n g A (fS V 1 0 0) w wr := by
  obtain ⟨A, hA, h2, h3, h4, h5⟩ := h
  obtain ⟨hxl, hh | ⟨g, cap, cur, hv, hg, hc, hn, hm, hs, ht⟩⟩ := hA
  · have := hh.2; omega
  · refine ⟨g, cap, A, hv, ⟨h3, fun i hi => ⟨fun e => ?_, h4 i hi⟩⟩, fun i hi => ?_, fun i hi => ?_, h5⟩
    · have hB := h2 i hi
      rw [e] at hB
      have hb : Blk wr g cur 22 := hc
      exact absurd (blk_types hB hb) (by decide)
    · have hb : Blk wr g cur 22 := hc
      refine hb.cell ?_
      have h3' : (rwV n A n)[i]? = some (.slice (some ⟨A i, 0, none⟩) n n) := by simp [rwV, hi]
      rw [← ht, List.getElem?_take, if_pos (by omega)] at h3'
      simpa using h3'
    · rw [fl_congr (f := fS V 1 0 0 i) (g := fun _ => 0) fun q hq => fS_start V i q]
      exact h2 i hi
theorem under40 : Try.prog.underlying 40 = some (.slice 22) := by kernel_rfl
end Go.Proofs.Ytljlbonoohhhdaa
