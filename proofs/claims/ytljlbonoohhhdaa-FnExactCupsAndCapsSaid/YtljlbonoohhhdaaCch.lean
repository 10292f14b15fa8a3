/- l10Chain: its lists. -/
import Derived.Test.YtljlbonoohhhdaaCim
namespace Go.Proofs.Ytljlbonoohhhdaa
set_option linter.unusedVariables false
set_option linter.unusedSimpArgs false
open Go Go.RowKit Go.Shelf
attribute [local go_sem] Oper.semAt_some
def fl (N : Nat) (f : Nat → Int) : List Int := (List.range N).map f
theorem fl_len (N : Nat) (f : Nat → Int) : (fl N f).length = N := by simp [fl]
theorem fl_get {N q : Nat} (f : Nat → Int) (h : q < N) : (fl N f).getD q 0 = f q := by simp [fl, List.getD, h]
theorem fl_congr {N : Nat} {f g : Nat → Int} (h : ∀ q, q < N → f q = g q) : fl N f = fl N g := List.map_congr_left fun q hq => h q (List.mem_range.1 hq)
theorem fl_set {N p : Nat} (f g : Nat → Int) (v : Int) (hp : g p = v) (h : ∀ q, q < N → q ≠ p → g q = f q) : (fl N f).set p v = fl N g := by
  apply List.ext_getElem
  · simp [fl]
  · intro q h1 h2
    have hq : q < N := by simpa [fl] using h2
    rw [List.getElem_set]
    simp only [fl, List.getElem_map, List.getElem_range]
    split
    · rename_i e; subst e; exact hp.symm
    · rename_i e; exact (h q hq (fun k => e k.symm)).symm
theorem fl_cell {w : World} {h N q : Nat} {f : Nat → Int} (hB : Blk w h (icells (fl N f)).toArray 2) (hq : q < N) : w.cell? ⟨h, q, none⟩ = some (.int .i64 (f q)) := by
  have h1 := icells_get (zs := fl N f) (j := q) (by rw [fl_len]; exact hq)
  rw [fl_get f hq] at h1
  exact hB.cell h1
theorem fl_store {w : World} {h N q : Nat} {f g : Nat → Int} {v : Int} (hB : Blk w h (icells (fl N f)).toArray 2) (e : (fl N f).set q v = fl N g) : Blk (w.setCell ⟨h, q, none⟩ (.int .i64 v)) h (icells (fl N g)).toArray 2 := by
  have s := hB.same q (.int .i64 v)
  rw [icells_set, e] at s
  exact s
/-- The lengths that stand in the rows in the round of the points J and I: z is that of I and J. -/
def fS (V : Nat → Nat → Int) (J I : Nat) (z : Int) (a b : Nat) : Int := if a < J ∧ b < a then V b a else if a = J ∧ b < I then V b J else if a = J ∧ b = I then z else 0
theorem fS_next (V : Nat → Nat → Int) (J I a b : Nat) : fS V J I (V I J) a b = fS V J (I + 1) 0 a b := by
  unfold fS
  by_cases h1 : a < J ∧ b < a
  · rw [if_pos h1, if_pos h1]
  · rw [if_neg h1, if_neg h1]
    by_cases h2 : a = J ∧ b < I
    · rw [if_pos h2, if_pos (by omega)]
    · rw [if_neg h2]
      by_cases h3 : a = J ∧ b = I
      · rw [if_pos h3, if_pos (by omega), h3.2]
      · rw [if_neg h3, if_neg (by omega)]; split <;> rfl
theorem fS_row (V : Nat → Nat → Int) (J a b : Nat) : fS V J J 0 a b = fS V (J + 1) 0 0 a b := by
  unfold fS
  by_cases h1 : a < J ∧ b < a
  · rw [if_pos h1, if_pos (by omega)]
  · rw [if_neg h1]
    by_cases h2 : a = J ∧ b < J
    · rw [if_pos h2, if_pos (by omega), h2.1]
    · rw [if_neg h2, if_neg (show ¬ (a < J + 1 ∧ b < a) by omega), if_neg (show ¬ (a = J + 1 ∧ b < 0) by omega)]
      split <;> split <;> rfl
theorem fS_start (V : Nat → Nat → Int) (a b : Nat) : fS V 1 0 0 a b = 0 := by
  unfold fS
  rw [if_neg (by omega), if_neg (by omega)]
  split <;> rfl
/-- The rows, each a list of its own. -/
def RelRw (n g : Nat) (A : Nat → Nat) (F : Nat → Nat → Int) (w wr : World) : Prop :=
  (∀ i, i < n → wr.cell? ⟨g, i, none⟩ = some (.slice (some ⟨A i, 0, none⟩) n n)) ∧ (∀ i, i < n → Blk wr (A i) (icells (fl n (F i))).toArray 2) ∧ Below w.heap.size w wr
/-- What does not change while they are filled. -/
def Apt (n g : Nat) (A : Nat → Nat) (w : World) : Prop := (∀ i j, i < n → j < n → A i = A j → i = j) ∧ (∀ i, i < n → A i ≠ g ∧ w.heap.size ≤ A i)
theorem RelRw.more {n g : Nat} {A : Nat → Nat} {F : Nat → Nat → Int} {w wr w2 : World} (h : RelRw n g A F w wr) (hb : Below wr.heap.size wr w2) : RelRw n g A F w w2 :=
  ⟨fun i hi => (hb.cell (p := ⟨g, i, none⟩) (block_lt_of_cell (h.1 i hi))).trans (h.1 i hi), fun i hi => (h.2.1 i hi).below hb (h.2.1 i hi).lt, h.2.2.trans (hb.mono h.2.2.size)⟩
theorem RelRw.drew {n g : Nat} {A : Nat → Nat} {F : Nat → Nat → Int} {w wr : World} (h : RelRw n g A F w wr) : RelRw n g A F w wr.drew := h.more (Below.refl _ _).drew
theorem cell_other {w : World} {p q : Addr} {u v : Value} (h : w.cell? p = some u) (hn : p.block ≠ q.block) : (w.setCell q v).cell? p = some u := by
  have hb := heap_setCell_other w q p.block v hn
  rw [World.cell?_of_block hb]; exact h
theorem RelRw.store {n g J I : Nat} {A : Nat → Nat} {F G : Nat → Nat → Int} {w wr : World} {z : Int} (h : RelRw n g A F w wr) (hA : Apt n g A w) (hJ : J < n) (hI : I < n) (hz : G J I = z) (hf : ∀ a b, a < n → b < n → ¬ (a = J ∧ b = I) → G a b = F a b) :
    RelRw n g A G w (wr.setCell ⟨A J, I, none⟩ (.int .i64 z)) := by
  refine ⟨fun i hi => cell_other (h.1 i hi) (fun e => (hA.2 J hJ).1 e.symm), fun i hi => ?_, h.2.2.setCell (p := ⟨A J, I, none⟩) (hA.2 J hJ).2 _⟩
  by_cases e : i = J
  · subst e
    exact fl_store (h.2.1 i hi) (fl_set _ _ _ hz fun q hq hn => hf i q hi hq (fun k => hn k.2))
  · have h2 := (h.2.1 i hi).other ⟨A J, I, none⟩ (.int .i64 z) (fun k => e (hA.1 i J hi hJ k))
    rw [fl_congr (fun q hq => hf i q hi hq (fun k => e k.1))]
    exact h2
/-- Chains with a sign. -/
def upS (s : Int) (X Y : Nat → Int) : Nat → Nat → Nat → Bool := fun i j l => decide (s * bnd X Y i j l > 0)
theorem upS_one (X Y : Nat → Int) : upS 1 X Y = upB X Y := by
  funext i j l
  unfold upS upB
  rw [Int.one_mul]
theorem upS_neg (X Y : Nat → Int) : upS (-1) X Y = upB X (fun q => - Y q) := by
  funext i j l
  unfold upS upB
  rw [bnd_neg]
  congr 2
  omega
end Go.Proofs.Ytljlbonoohhhdaa
