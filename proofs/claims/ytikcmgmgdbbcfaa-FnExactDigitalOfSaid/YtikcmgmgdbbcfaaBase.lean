/- Blocks of cells that a call owns, and whole rows loaded and stored: plain lemmas over the world, with no program in them. -/
import Derived.WalkKit
import Derived.Deep.MidRow
import Derived.Deep.WholeRow
import Derived.Deep.QuietTactic
import Derived.BigQuiet
namespace Go.Proofs.Ytikcmgmgdbbcfaa
open Go Go.RowKit

theorem hidd {p : Prop} (h : p) : Hid p := h

/-- Block b of w is a row of the cells C that may be written. -/
def Blk (w : World) (b : Nat) (C : Array Value) (t : TypeId) : Prop := w.heap[b]? = some (.cells C t (0, 0))

theorem Blk.cell {w : World} {b : Nat} {C : Array Value} {t : TypeId} (h : Blk w b C t) {j : Nat} {v : Value} (hv : C[j]? = some v) : w.cell? ⟨b, j, none⟩ = some v := by
  rw [cell_of_row w b j C t (0, 0) h]; exact hv
theorem Blk.fro {w : World} {b : Nat} {C : Array Value} {t : TypeId} (h : Blk w b C t) (j : Nat) : w.frozen? ⟨b, j, none⟩ = false := frozen_of_row w b j C t h
theorem Blk.same {w : World} {b : Nat} {C : Array Value} {t : TypeId} (h : Blk w b C t) (j : Nat) (v : Value) : Blk (w.setCell ⟨b, j, none⟩ v) b (C.setIfInBounds j v) t := heap_setCell_same w b j C t v h
theorem Blk.other {w : World} {b : Nat} {C : Array Value} {t : TypeId} (h : Blk w b C t) (a : Addr) (v : Value) (hn : b ≠ a.block) : Blk (w.setCell a v) b C t := by
  unfold Blk; rw [heap_setCell_other w a b v hn]; exact h
theorem Blk.lt {w : World} {b : Nat} {C : Array Value} {t : TypeId} (h : Blk w b C t) : b < w.heap.size := by
  unfold Blk at h; exact (Array.getElem?_eq_some_iff.1 h).1
theorem Blk.alloc {w : World} {b : Nat} {C : Array Value} {t : TypeId} (h : Blk w b C t) (o : Obj) : Blk (w.alloc o) b C t := by
  unfold Blk; rw [Below.heap_alloc w o b h.lt]; exact h
theorem Blk.new (w : World) (C : Array Value) (t : TypeId) (b : Nat) (hb : b = w.heap.size) : Blk (w.alloc (.cells C t)) b C t := by subst hb; exact heap_alloc_new w _
theorem Blk.below {w w' : World} {B b : Nat} {C : Array Value} {t : TypeId} (h : Blk w b C t) (hb : Below B w w') (hl : b < B) : Blk w' b C t := by
  unfold Blk; rw [hb.block b hl]; exact h
theorem Blk.drew {w : World} {b : Nat} {C : Array Value} {t : TypeId} (h : Blk w b C t) : Blk w.drew b C t := h
theorem Blk.drewN {w : World} {b : Nat} {C : Array Value} {t : TypeId} (h : Blk w b C t) (n : Nat) : Blk (w.drewN n) b C t := h
theorem Blk.rowSame {w : World} {b : Nat} {C : Array Value} {t : TypeId} (h : Blk w b C t) (C' : Array Value) : Blk (w.setRow b C') b C' t := setRow_heap w b C C' t (0, 0) h
theorem Blk.rowOther {w : World} {b : Nat} {C : Array Value} {t : TypeId} (h : Blk w b C t) (g : Nat) (C' : Array Value) (hn : b ≠ g) : Blk (w.setRow g C') b C t := by
  unfold Blk; rw [setRow_other w g b C' hn]; exact h
theorem Blk.range {w : World} {b : Nat} {C : Array Value} {t : TypeId} (h : Blk w b C t) (o : Nat) (cs : List Value) (hc : ∀ j v, cs[j]? = some v → C[o + j]? = some v) : w.rangeAt b o cs :=
  fun j v hv => h.cell (hc j v hv)
theorem Blk.there {w : World} {b : Nat} {C : Array Value} {t : TypeId} (h : Blk w b C t) (o n : Nat) (hn : o + n ≤ C.size) : w.there b o n := fun j hj => by
  have hlt : o + j < C.size := by omega
  exact ⟨by rw [h.cell (Array.getElem?_eq_getElem hlt)]; rfl, h.fro _⟩

theorem below_setRow {B : Nat} {a w : World} (h : Below B a w) {g : Nat} (hp : B ≤ g) (C : Array Value) : Below B a (w.setRow g C) :=
  h.trans ⟨rfl, rfl, rfl, by simp, fun k hk => setRow_other w g k C (by omega)⟩
theorem below_setCells {B : Nat} {a : World} {b : Nat} (hp : B ≤ b) : ∀ (vs : List Value) (o : Nat) {w : World}, Below B a w → Below B a (w.setCells b o vs)
  | [], _, _, h => h
  | _ :: r, o, _, h => by rw [World.setCells]; exact below_setCells hp r (o + 1) (h.setCell hp _)
theorem below_drewN {B : Nat} {a w : World} (h : Below B a w) (n : Nat) : Below B a (w.drewN n) := ⟨h.os, h.tape, h.output, h.size, h.block⟩
/-- The cells from o on, set one by one. -/
def setFrom (C : Array Value) : Nat → List Value → Array Value
  | _, [] => C
  | o, v :: r => setFrom (C.setIfInBounds o v) (o + 1) r
theorem setFrom_size (vs : List Value) : ∀ (C : Array Value) (o : Nat), (setFrom C o vs).size = C.size := by
  induction vs with
  | nil => intro C o; rfl
  | cons v r ih => intro C o; rw [setFrom, ih]; simp
theorem setFrom_get (vs : List Value) : ∀ (C : Array Value) (o j : Nat), o + vs.length ≤ C.size → (setFrom C o vs)[j]? = if o ≤ j ∧ j < o + vs.length then vs[j - o]? else C[j]? := by
  induction vs with
  | nil => intro C o j _; rw [if_neg (by simp)]; rfl
  | cons v r ih =>
    intro C o j h
    simp only [List.length_cons] at h ⊢
    rw [setFrom, ih _ _ _ (by simp; omega)]
    by_cases h1 : o + 1 ≤ j ∧ j < o + 1 + r.length
    · rw [if_pos h1, if_pos (by omega)]
      obtain ⟨m, rfl⟩ : ∃ m, j = o + 1 + m := ⟨j - (o + 1), by omega⟩
      rw [show o + 1 + m - (o + 1) = m by omega, show o + 1 + m - o = m + 1 by omega]; rfl
    · rw [if_neg h1, Array.getElem?_setIfInBounds]
      by_cases h2 : o = j
      · subst h2; rw [if_pos rfl, if_pos (by omega), if_pos (by omega)]; simp
      · rw [if_neg h2, if_neg (by omega)]
theorem Blk.cellsSame {b : Nat} {t : TypeId} (vs : List Value) : ∀ {w : World} {C : Array Value} (o : Nat), Blk w b C t → Blk (w.setCells b o vs) b (setFrom C o vs) t := by
  induction vs with
  | nil => intro w C o h; exact h
  | cons v r ih => intro w C o h; rw [World.setCells]; exact ih (o + 1) (h.same o v)
theorem Blk.cellsOther {b g : Nat} {C : Array Value} {t : TypeId} (hn : b ≠ g) (vs : List Value) : ∀ {w : World} (o : Nat), Blk w b C t → Blk (w.setCells g o vs) b C t := by
  induction vs with
  | nil => intro w o h; exact h
  | cons v r ih => intro w o h; rw [World.setCells]; exact ih (o + 1) (h.other _ _ hn)

/-! ### Bytes and colourings as cells -/
def bcells (bs : List Nat) : List Value := bs.map fun (x : Nat) => Value.int .u8 (x : Int)
theorem bcells_len (bs : List Nat) : (bcells bs).length = bs.length := by simp [bcells]
theorem bcells_get (bs : List Nat) (k : Nat) (h : k < bs.length) : (bcells bs)[k]? = some (.int .u8 (bs[k]'h : Nat)) := by simp [bcells, h]
theorem bcells_one (bs : List Nat) : (bcells bs).toArray.all (·.oneCell') = true := by
  refine Array.all_eq_true_iff_forall_mem.2 (fun v hv => ?_)
  simp only [List.mem_toArray, bcells, List.mem_map] at hv
  obtain ⟨x, _, rfl⟩ := hv; rfl
def zbl : List Nat := List.replicate 136 0
theorem zbl_len : zbl.length = 136 := by simp [zbl]
/-- The cells of a colouring: the points, the colours, the edges. -/
def ccells (n k : Int) (bs : List Nat) : List Value := .int .i64 n :: .int .i64 k :: bcells bs
theorem ccells_len (n k : Int) (bs : List Nat) : (ccells n k bs).length = bs.length + 2 := by simp [ccells, bcells_len]
theorem ccells_one (n k : Int) (bs : List Nat) : (ccells n k bs).toArray.all (·.oneCell') = true := by
  have := bcells_one bs
  simp [ccells, Value.oneCell'] at this ⊢; exact this
theorem ccells_get (n k : Int) (bs : List Nat) (j : Nat) (h : j < bs.length) : (ccells n k bs).toArray[2 + j]? = some (.int .u8 (bs[j]'h : Nat)) := by
  rw [show 2 + j = j + 1 + 1 by omega]
  simp only [ccells, List.getElem?_toArray, List.getElem?_cons_succ]
  exact bcells_get bs j h
theorem ccells_set (n k : Int) (bs : List Nat) (j : Nat) (x : Nat) : (ccells n k bs).toArray.setIfInBounds (2 + j) (.int .u8 (x : Int)) = (ccells n k (bs.set j x)).toArray := by
  rw [show 2 + j = j + 1 + 1 by omega]
  simp [ccells, bcells, List.map_set]
theorem ccells_set0 (n n' k : Int) (bs : List Nat) : (ccells n k bs).toArray.setIfInBounds 0 (.int .i64 n') = (ccells n' k bs).toArray := by simp [ccells]
theorem ccells_set1 (n k k' : Int) (bs : List Nat) : (ccells n k bs).toArray.setIfInBounds 1 (.int .i64 k') = (ccells n k' bs).toArray := by simp [ccells]
theorem ccells_edges (n k : Int) (bs cs : List Nat) (h : bs.length = cs.length) : setFrom (ccells n k bs).toArray 2 (bcells cs) = (ccells n k cs).toArray := by
  apply Array.ext_getElem?
  intro j
  rw [setFrom_get _ _ _ _ (by simp [ccells_len, bcells_len]; omega)]
  by_cases h1 : 2 ≤ j ∧ j < 2 + (bcells cs).length
  · rw [if_pos h1]
    obtain ⟨m, rfl⟩ : ∃ m, j = m + 2 := ⟨j - 2, by omega⟩
    simp [ccells]
  · rw [if_neg h1]
    rw [bcells_len] at h1
    match j, h1 with
    | 0, _ => simp [ccells]
    | 1, _ => simp [ccells]
    | m + 2, h1 => rw [Array.getElem?_eq_none (by simp [ccells_len]; omega), Array.getElem?_eq_none (by simp [ccells_len]; omega)]
theorem bcells_inj {a b : List Nat} (h : bcells a = bcells b) : a = b := by
  induction a generalizing b with
  | nil => cases b with
    | nil => rfl
    | cons y b => simp [bcells] at h
  | cons x a ih => cases b with
    | nil => simp [bcells] at h
    | cons y b =>
      simp only [bcells, List.map_cons, List.cons.injEq, Value.int.injEq, true_and] at h
      rw [show x = y by omega, ih h.2]
/-- Cells that are the bytes up to k. -/
def Cop (bs : List Nat) (k : Nat) (C : Array Value) : Prop := C.size = 136 ∧ ∀ j, j < k → C[j]? = (bcells bs)[j]?
theorem Cop.step {bs : List Nat} {k : Nat} {C : Array Value} (h : Cop bs k C) (hk : k < 136) (v : Value) (hv : (bcells bs)[k]? = some v) : Cop bs (k + 1) (C.setIfInBounds k v) := by
  refine ⟨by simp [h.1], fun j hj => ?_⟩
  rw [Array.getElem?_setIfInBounds]
  by_cases e : k = j
  · subst e; rw [if_pos rfl, if_pos (by rw [h.1]; exact hk), hv]
  · rw [if_neg e]; exact h.2 j (by omega)
theorem Cop.done {bs : List Nat} {C : Array Value} (hl : bs.length = 136) (h : Cop bs 136 C) : C = (bcells bs).toArray := by
  apply Array.ext_getElem?
  intro j
  by_cases hj : j < 136
  · rw [h.2 j hj]; simp
  · rw [Array.getElem?_eq_none (by rw [h.1]; omega), Array.getElem?_eq_none (by simp [bcells_len, hl]; omega)]
end Go.Proofs.Ytikcmgmgdbbcfaa
