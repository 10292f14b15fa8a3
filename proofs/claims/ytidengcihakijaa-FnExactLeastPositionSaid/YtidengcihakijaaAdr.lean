/- A row that is turned round behind a place, and what two stores make of it. -/
import Derived.Test.YtidengcihakijaaAdq
namespace Go.Proofs.Ytidengcihakijaa
set_option linter.unusedVariables false
set_option linter.unusedSimpArgs false
open Go Go.RowKit Go.Shelf Go.Sort
/-- A block that holds a list at its beginning. -/
def RowC (W : World) (g : Nat) (L : List Int) (C : Array Value) : Prop := Blk W g C 2 ∧ L.length ≤ C.size ∧ ∀ j, j < L.length → C[j]? = some (.int .i64 (L.getD j 0))
/-- Only one block has turned. -/
def OnlyB (g : Nat) (w w' : World) : Prop := w'.os = w.os ∧ w'.tape = w.tape ∧ w'.output = w.output ∧ w'.heap.size = w.heap.size ∧ ∀ k, k ≠ g → w'.heap[k]? = w.heap[k]?
theorem OnlyB.refl (g : Nat) (w : World) : OnlyB g w w := ⟨rfl, rfl, rfl, rfl, fun _ _ => rfl⟩
theorem OnlyB.trans {g : Nat} {a b c : World} (h : OnlyB g a b) (k : OnlyB g b c) : OnlyB g a c :=
  ⟨k.1.trans h.1, k.2.1.trans h.2.1, k.2.2.1.trans h.2.2.1, k.2.2.2.1.trans h.2.2.2.1, fun i hi => (k.2.2.2.2 i hi).trans (h.2.2.2.2 i hi)⟩
theorem OnlyB.drewN {g : Nat} {a b : World} (h : OnlyB g a b) (q : Nat) : OnlyB g a (b.drewN q) := h
theorem OnlyB.drew {g : Nat} {a b : World} (h : OnlyB g a b) : OnlyB g a b.drew := h
theorem OnlyB.set {g : Nat} {a b : World} (h : OnlyB g a b) (j : Nat) (v : Value) : OnlyB g a (b.setCell ⟨g, j, none⟩ v) :=
  h.trans ⟨rfl, rfl, rfl, by simp [World.setCell], fun k hk => heap_setCell_other b _ k _ hk⟩
theorem RowC.cell {W : World} {g : Nat} {L : List Int} {C : Array Value} (h : RowC W g L C) {j : Nat} (hj : j < L.length) : W.cell? ⟨g, j, none⟩ = some (.int .i64 (L.getD j 0)) := h.1.cell (h.2.2 j hj)
theorem RowC.set {W : World} {g : Nat} {L : List Int} {C : Array Value} (h : RowC W g L C) {e : Nat} (he : e < L.length) (x : Int) : RowC (W.setCell ⟨g, e, none⟩ (.int .i64 x)) g (L.set e x) (C.setIfInBounds e (.int .i64 x)) := by
  refine ⟨h.1.same e _, by simpa using h.2.1, fun j hj => ?_⟩
  rw [List.length_set] at hj
  rw [Array.getElem?_setIfInBounds, getD_set he]
  have := h.2.1
  by_cases hje : e = j
  · subst hje; rw [if_pos rfl, if_pos (by omega), if_pos rfl]
  · rw [if_neg hje, if_neg (Ne.symm hje)]; exact h.2.2 j hj
theorem arr_get (zs : List Int) {j : Nat} (hj : j < zs.length) : zs.toArray[j]! = zs.getD j 0 := by
  rw [getElem!_pos _ j (by simpa using hj)]
  simp [List.getD, hj]
theorem blk_putRow {w : World} {g off n : Nat} {C : Array Value} (d : Array Int) (h : Blk w g C 2) : Blk (putRow (Value.int .i64) (Sort.ahead w n) g off d) g (putCells (Value.int .i64) off d C) 2 := by
  unfold Blk putRow mapBlock
  show (w.heap.modify g _)[g]? = _
  rw [Array.getElem?_modify, if_pos rfl, h]
  rfl
theorem only_putRow {w : World} {g off n : Nat} (d : Array Int) : OnlyB g w (putRow (Value.int .i64) (Sort.ahead w n) g off d) := by
  refine ⟨rfl, rfl, rfl, by simp [putRow, mapBlock, Sort.ahead], fun k hk => ?_⟩
  unfold putRow mapBlock
  show (w.heap.modify g _)[k]? = _
  rw [Array.getElem?_modify, if_neg (Ne.symm hk)]
theorem bh_len (L : List Int) (l : Nat) : (bhL L l).length = L.length - (l + 1) := by simp [bhL]
/-- The list whose part behind l is turned round. -/
def trnL (L : List Int) (l : Nat) : List Int := L.take (l + 1) ++ bhL L l
theorem trn_len {L : List Int} {l : Nat} (hl : l + 1 ≤ L.length) : (trnL L l).length = L.length := by
  unfold trnL; rw [List.length_append, bh_len, List.length_take]; omega
theorem trn_lo {L : List Int} {l j : Nat} (hl : l + 1 ≤ L.length) (hj : j < l + 1) : (trnL L l).getD j 0 = L.getD j 0 := by
  unfold trnL
  simp only [List.getD]
  rw [List.getElem?_append_left (by rw [List.length_take]; omega), List.getElem?_take, if_pos hj]
theorem trn_hi {L : List Int} {l j : Nat} (hl : l + 1 ≤ L.length) : (trnL L l).getD (l + 1 + j) 0 = (bhL L l).getD j 0 := by
  unfold trnL
  simp only [List.getD]
  rw [List.getElem?_append_right (by rw [List.length_take]; omega), List.length_take, show l + 1 + j - min (l + 1) L.length = j by omega]
theorem rev_row (g l cap : Nat) (L : List Int) (C : Array Value) (w : World) (h : RowC w g L C) (hl : l + 1 ≤ L.length) (hsz : L.length ≤ 1048576) :
    Calls Try.prog 58 #[.slice (some ⟨g, l + 1, none⟩) (L.length - (l + 1)) cap] w fun e w' => e = .returned (.tuple #[]) ∧ (∃ C', RowC w' g (trnL L l) C') ∧ OnlyB g w w' := by
  have hlen : (L.drop (l + 1)).length = L.length - (l + 1) := by simp
  have hgd : ∀ j, (L.drop (l + 1)).getD j 0 = L.getD (l + 1 + j) 0 := fun j => by simp [List.getD]
  have H := rev51 g (l + 1) cap (L.drop (l + 1)) w (fun j hj => by
    have hj' : j < (L.drop (l + 1)).length := by simpa using hj
    rw [arr_get _ hj', hgd]
    exact ⟨h.cell (by omega), h.1.fro _⟩) (by rw [hlen]; omega)
  rw [hlen] at H
  refine H.mono ?_
  rintro e w' ⟨rfl, n, rfl⟩
  refine ⟨rfl, ⟨_, blk_putRow _ h.1, ?_, fun j hj => ?_⟩, only_putRow _⟩
  · rw [trn_len hl]; simpa [putCells] using h.2.1
  · rw [trn_len hl] at hj
    have hC := h.2.2 j hj
    simp only [putCells, Array.getElem?_mapIdx, hC, Option.map_some]
    have hbl := bh_len L l
    have hs : (bhL L l).toArray.size = L.length - (l + 1) := by simpa using hbl
    show some (if l + 1 ≤ j ∧ j < l + 1 + (bhL L l).toArray.size then Value.int .i64 (bhL L l).toArray[j - (l + 1)]! else _) = _
    rw [hs]
    by_cases hj2 : l + 1 ≤ j
    · obtain ⟨i, rfl⟩ : ∃ i, j = l + 1 + i := ⟨j - (l + 1), by omega⟩
      rw [if_pos ⟨by omega, by omega⟩, trn_hi hl, show l + 1 + i - (l + 1) = i by omega, arr_get _ (by rw [hbl]; omega)]
    · rw [if_neg (by omega), trn_lo hl (by omega)]
/-- What lies behind is in order when it is turned round. -/
theorem bh_sorted {L : List Int} {l : Nat} (h : ∀ j, l + 1 ≤ j → j + 1 < L.length → L.getD (j + 1) 0 < L.getD j 0) : (bhL L l).Pairwise (· ≤ ·) := by
  unfold bhL
  rw [List.pairwise_reverse]
  have key : ∀ d i j : Nat, j = i + d + 1 → l + 1 ≤ i → j < L.length → L.getD j 0 ≤ L.getD i 0 := by
    intro d
    induction d with
    | zero => intro i j hj hi hl; subst hj; exact Int.le_of_lt (h i hi hl)
    | succ d ih =>
      intro i j hj hi hl
      have h1 := ih i (j - 1) (by omega) hi (by omega)
      have h2 := h (j - 1) (by omega) (by omega)
      rw [show j - 1 + 1 = j by omega] at h2
      omega
  rw [List.pairwise_iff_getElem]
  intro i j hi hj hij
  simp only [List.length_drop] at hi hj
  have h1 := key (j - i - 1) (l + 1 + i) (l + 1 + j) (by omega) (by omega) (by omega)
  simp only [List.getElem_drop]
  rwa [show L.getD (l + 1 + j) 0 = L[l + 1 + j] by simp [List.getD, show l + 1 + j < L.length by omega], show L.getD (l + 1 + i) 0 = L[l + 1 + i] by simp [List.getD, show l + 1 + i < L.length by omega]] at h1
theorem at_lt {L : List Int} {l : Nat} (hl : l + 1 < L.length) (h : ¬ L.getD (l + 1) 0 < L.getD l 0) : atN L l < (bhL L l).length := by
  unfold atN
  rcases Nat.lt_or_ge ((bhL L l).countP (· < L.getD l 0)) (bhL L l).length with h1 | h1
  · exact h1
  · exfalso
    have h2 := List.countP_eq_length.1 (Nat.le_antisymm List.countP_le_length h1)
    have hm : L.getD (l + 1) 0 ∈ bhL L l := by
      unfold bhL
      rw [List.mem_reverse]
      rw [show L.getD (l + 1) 0 = L[l + 1] by simp [List.getD, hl], List.mem_drop_iff_getElem]
      exact ⟨0, by omega, rfl⟩
    have := h2 _ hm
    simp only [decide_eq_true_eq] at this
    exact h this
theorem nxt_sets {L : List Int} {l : Nat} (hl : l + 1 < L.length) : ((trnL L l).set l ((bhL L l).getD (atN L l) 0)).set (l + 1 + atN L l) (L.getD l 0) = nxtL L l := by
  have e : trnL L l = L.take l ++ L.getD l 0 :: bhL L l := by
    have h0 : l < L.length := by omega
    have h1 : L.take (l + 1) = L.take l ++ [L[l]] := by rw [List.take_add_one, List.getElem?_eq_getElem h0]; rfl
    have h2 : L.getD l 0 = L[l] := by simp [List.getD, h0]
    unfold trnL
    rw [h1, h2, List.append_assoc]
    rfl
  have hk : (L.take l).length = l := by rw [List.length_take]; omega
  rw [e, List.set_append_right _ _ (by omega), hk, Nat.sub_self, List.set_cons_zero, List.set_append_right _ _ (by omega), hk, show l + 1 + atN L l - l = atN L l + 1 by omega, List.set_cons_succ]
  rfl
end Go.Proofs.Ytidengcihakijaa
