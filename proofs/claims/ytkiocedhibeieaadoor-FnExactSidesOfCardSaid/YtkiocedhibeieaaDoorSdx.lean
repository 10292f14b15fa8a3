/- SidesOf: the model; the relations. -/
import Derived.Deep.CutRange
import Derived.Test.YtkiocedhibeieaaDoorSdi
namespace Go.Proofs.YtkiocedhibeieaaDoor
set_option linter.unusedVariables false
set_option linter.unusedSimpArgs false
open Go Go.RowKit Go.Shelf
/-- The colouring, the rows of neighbours in block b, the sides in block g. -/
def RelZx (C : Array Value) (b : Nat) (rs : List Int) (g N : Nat) (o : Nat → Int) (w wr : World) : Prop :=
  Blk wr w.heap.size C 28 ∧ (∃ C' : Array Value, Blk wr b C' 2 ∧ ∀ j, j < rs.length → C'[j]? = some (.int .i64 (rs.getD j 0))) ∧ Blk wr g (icells (fl N o)).toArray 2 ∧ Below w.heap.size w wr ∧ w.heap.size < g ∧ w.heap.size < b ∧ b ≠ g
theorem RelZx.lt {C : Array Value} {b g N : Nat} {rs : List Int} {o : Nat → Int} {w wr : World} (h : RelZx C b rs g N o w wr) : w.heap.size < wr.heap.size ∧ b < wr.heap.size ∧ g < wr.heap.size := by
  obtain ⟨h1, ⟨C', h2, _⟩, h3, _⟩ := h
  exact ⟨h1.lt, h2.lt, h3.lt⟩
theorem RelZx.below {C : Array Value} {b g N : Nat} {rs : List Int} {o : Nat → Int} {w wr w2 : World} (h : RelZx C b rs g N o w wr) {B : Nat} (hb : Below B wr w2) (hg : g < B) (hbb : b < B) (hw : w.heap.size < B) : RelZx C b rs g N o w w2 := by
  obtain ⟨h1, ⟨C', h2, h2'⟩, h3, h4, h5⟩ := h
  exact ⟨h1.below hb hw, ⟨C', h2.below hb hbb, h2'⟩, h3.below hb hg, h4.trans (hb.mono (by omega)), h5⟩
theorem RelZx.drewN {C : Array Value} {b g N : Nat} {rs : List Int} {o : Nat → Int} {w wr : World} (h : RelZx C b rs g N o w wr) (n : Nat) : RelZx C b rs g N o w (wr.drewN n) :=
  h.below (B := wr.heap.size) (below_drewN (Below.refl _ _) n) h.lt.2.2 h.lt.2.1 h.lt.1
theorem RelZx.store {C : Array Value} {b g N q : Nat} {rs : List Int} {o o' : Nat → Int} {w wr : World} {v : Int} (h : RelZx C b rs g N o w wr) (e : (fl N o).set q v = fl N o') : RelZx C b rs g N o' w (wr.setCell ⟨g, q, none⟩ (.int .i64 v)) := by
  obtain ⟨h1, ⟨C', h2, h2'⟩, h3, h4, h5, h6, h7⟩ := h
  exact ⟨h1.other ⟨g, q, none⟩ _ (by show _ ≠ g; omega), ⟨C', h2.other ⟨g, q, none⟩ _ h7, h2'⟩, fl_store h3 e, h4.setCell (p := ⟨g, q, none⟩) (by show _ ≤ g; omega) _, h5, h6, h7⟩
theorem RelZx.row {C : Array Value} {b g N : Nat} {rs : List Int} {o : Nat → Int} {w wr : World} (h : RelZx C b rs g N o w wr) {j : Nat} (hj : j < rs.length) : wr.cell? ⟨b, j, none⟩ = some (.int .i64 (rs.getD j 0)) := by
  obtain ⟨_, ⟨C', h2, h2'⟩, _⟩ := h
  exact h2.cell (h2' j hj)
/-- With a queue of the call's own from block B on. -/
def RelZq (C : Array Value) (b : Nat) (rs : List Int) (g N : Nat) (o : Nat → Int) (B : Nat) (vq : Value) (L : List Nat) (w wr : World) : Prop :=
  RelZx C b rs g N o w wr ∧ (g < B ∧ b < B ∧ w.heap.size < B ∧ B ≤ wr.heap.size) ∧ wr.ownsRow B 2 1 vq L.length (icells (L.map fun (x : Nat) => (x : Int)))
theorem own_other {w : World} {B n : Nat} {v : Value} {xs : List Value} (h : w.ownsRow B 2 1 v n xs) {a : Addr} (ha : a.block < B) (x : Value) : (w.setCell a x).ownsRow B 2 1 v n xs := by
  refine ⟨h.1, ?_⟩
  rcases h.2 with h2 | ⟨g, cap, cur, hv, hg, hc, r⟩
  · exact .inl h2
  · exact .inr ⟨g, cap, cur, hv, hg, by rw [heap_setCell_other w a g x (by omega)]; exact hc, r⟩
theorem RelZq.store {C : Array Value} {b g N q B : Nat} {rs : List Int} {o o' : Nat → Int} {w wr : World} {vq : Value} {L : List Nat} {v : Int} (h : RelZq C b rs g N o B vq L w wr) (e : (fl N o).set q v = fl N o') : RelZq C b rs g N o' B vq L w (wr.setCell ⟨g, q, none⟩ (.int .i64 v)) :=
  ⟨h.1.store e, ⟨h.2.1.1, h.2.1.2.1, h.2.1.2.2.1, by simpa [World.setCell] using h.2.1.2.2.2⟩, own_other h.2.2 (a := ⟨g, q, none⟩) h.2.1.1 _⟩
theorem RelZq.drewN {C : Array Value} {b g N B : Nat} {rs : List Int} {o : Nat → Int} {w wr : World} {vq : Value} {L : List Nat} (h : RelZq C b rs g N o B vq L w wr) (n : Nat) : RelZq C b rs g N o B vq L w (wr.drewN n) :=
  ⟨h.1.drewN n, h.2.1, own_below (B := wr.heap.size) h.2.2 (below_drewN (Below.refl _ _) n) (Nat.le_refl _)⟩
theorem RelZq.start {C : Array Value} {b g N p : Nat} {rs : List Int} {o : Nat → Int} {w wr : World} (h : RelZx C b rs g N o w wr) : RelZq C b rs g N o wr.heap.size (.slice (some ⟨wr.heap.size, 0, none⟩) 1 1) [p] w (wr.alloc (.cells #[.int .i64 (p : Int)] 2)) := by
  obtain ⟨l1, l2, l3⟩ := h.lt
  refine ⟨h.below (B := wr.heap.size) ((Below.refl _ _).alloc (Nat.le_refl _) _) l3 l2 l1, ⟨l3, l2, l1, by simp⟩, ?_⟩
  exact ⟨rfl, .inr ⟨wr.heap.size, 1, #[.int .i64 (p : Int)], rfl, Nat.le_refl _, Blk.new _ _ _ _ rfl, Nat.le_refl _, by simp [maxLen], rfl, rfl⟩⟩
theorem RelZq.more {C : Array Value} {b g N B j : Nat} {rs : List Int} {o : Nat → Int} {w wr w2 : World} {v v' : Value} {L : List Nat} {x : Obj} (h : RelZq C b rs g N o B v L w wr) (hg : (wr.alloc x).grownBy w2 v.ownBlock) (hown : w2.ownsRow B 2 1 v' (L.length + 1) (icells (L.map fun (x : Nat) => (x : Int)) ++ [.int .i64 (j : Int)])) : RelZq C b rs g N o B v' (L ++ [j]) w w2 := by
  obtain ⟨h1, ⟨a1, a2, a3, a4⟩, h3⟩ := h
  have hb := grown_step h3 hg a4
  refine ⟨h1.below hb a1 a2 a3, ⟨a1, a2, a3, Nat.le_trans a4 hb.size⟩, ?_⟩
  rw [List.map_append, icells_app, List.length_append]
  exact hown
theorem RelZq.at {C : Array Value} {b g N B i : Nat} {rs : List Int} {o : Nat → Int} {w wr : World} {a : Option Addr} {cap : Nat} {L : List Nat} (h : RelZq C b rs g N o B (.slice a L.length cap) L w wr) (hi : i < L.length) : ∃ q, a = some ⟨q, 0, none⟩ ∧ wr.cell? ⟨q, i, none⟩ = some (.int .i64 ((L.getD i 0 : Nat) : Int)) := by
  have h1 := h.2.2
  have hz : (L.map fun (x : Nat) => (x : Int)).length = L.length := List.length_map _
  rw [← hz] at h1
  obtain ⟨a', cap', e, hL⟩ := own_list h1
  injection e with e1 e2 e3
  subst e1
  rcases hL with e | ⟨q, C', h2, h3, h4, h5, h6⟩
  · have : L = [] := by simpa using e
    subst this
    simp at hi
  · refine ⟨q, h3, ?_⟩
    have h7 := h4.cell (h6 i (by rw [hz]; exact hi))
    rw [h7]
    simp [List.getD, hi]
theorem own_slice {w : World} {B : Nat} {v : Value} {L : List Nat} (h : w.ownsRow B 2 1 v L.length (icells (L.map fun (x : Nat) => (x : Int)))) : ∃ a cap, v = .slice a L.length cap := by
  have hz : (L.map fun (x : Nat) => (x : Int)).length = L.length := List.length_map _
  rw [← hz] at h
  obtain ⟨a, cap, e, _⟩ := own_list h
  rw [hz] at e
  exact ⟨a, cap, e⟩
end Go.Proofs.YtkiocedhibeieaaDoor
