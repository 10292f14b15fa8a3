/- My texts Base, Col, Types, Sl, SpecIs, ImplIs, Conv, Open, Edge, Tests, Given, ColourOf, Eq, Res, ChangeEdge, Lists, PutPoint, Own, in one. -/
import Derived.WalkKit
import Derived.Deep.MidRow
import Derived.Deep.WholeRow
import Derived.Deep.QuietTactic
import Derived.BigQuiet
import Derived.Test.YtlnelmickndoaaaDoorProg
import Derived.Outline
import Derived.ProofKit
import Derived.OpenShut
import Derived.Carry
import Derived.StillTailTactics
/- Blocks of cells that a call owns, and whole rows loaded and stored: plain lemmas over the world, with no program in them. -/
namespace Go.Proofs.YtlnelmickndoaaaDoor
open Go Go.RowKit

theorem hidd {p : Prop} (h : p) : Hid p := h

/-- Block b of w is a row of the cells C that may be written. -/
def Blk (w : World) (b : Nat) (C : Array Value) (t : TypeId) : Prop := w.heap[b]? = some (.cells C t (0, 0))

theorem Blk.cell {w : World} {b : Nat} {C : Array Value} {t : TypeId} (h : Blk w b C t) {j : Nat} {v : Value} (hv : C[j]? = some v) : w.cell? ⟨b, j, none⟩ = some v := by
  rw [cell_of_row w b j C t (0, 0) h]; exact hv
theorem Blk.fro {w : World} {b : Nat} {C : Array Value} {t : TypeId} (h : Blk w b C t) (j : Nat) : w.frozen? ⟨b, j, none⟩ = false := frozen_of_row w b j C t h
theorem Blk.same {w : World} {b : Nat} {C : Array Value} {t : TypeId} (h : Blk w b C t) (j : Nat) (v : Value) : Blk (w.setCell ⟨b, j, none⟩ v) b (C.setIfInBounds j v) t := heap_setCell_same w b j C t v h
theorem Blk.other {w : World} {b : Nat} {C : Array Value} {t : TypeId} (h : Blk w b C t) (a : Addr) (v : Value) (hn : b ≠ a.block) : Blk (w.setCell a v) b C t := by
  unfold Blk; rw [heap_setCell_other w a b v hn]; exact h
theorem Blk.lt {w : World} {b : Nat} {C : Array Value} {t : TypeId} (h : Blk w b C t) : b < w.heap.size := by
  unfold Blk at h; exact (Array.getElem?_eq_some_iff.1 h).1
theorem Blk.alloc {w : World} {b : Nat} {C : Array Value} {t : TypeId} (h : Blk w b C t) (o : Obj) : Blk (w.alloc o) b C t := by
  unfold Blk; rw [Below.heap_alloc w o b h.lt]; exact h
theorem Blk.new (w : World) (C : Array Value) (t : TypeId) (b : Nat) (hb : b = w.heap.size) : Blk (w.alloc (.cells C t)) b C t := by subst hb; exact heap_alloc_new w _
theorem Blk.below {w w' : World} {B b : Nat} {C : Array Value} {t : TypeId} (h : Blk w b C t) (hb : Below B w w') (hl : b < B) : Blk w' b C t := by
  unfold Blk; rw [hb.block b hl]; exact h
theorem Blk.drew {w : World} {b : Nat} {C : Array Value} {t : TypeId} (h : Blk w b C t) : Blk w.drew b C t := h
theorem Blk.drewN {w : World} {b : Nat} {C : Array Value} {t : TypeId} (h : Blk w b C t) (n : Nat) : Blk (w.drewN n) b C t := h
theorem Blk.rowSame {w : World} {b : Nat} {C : Array Value} {t : TypeId} (h : Blk w b C t) (C' : Array Value) : Blk (w.setRow b C') b C' t := setRow_heap w b C C' t (0, 0) h
theorem Blk.rowOther {w : World} {b : Nat} {C : Array Value} {t : TypeId} (h : Blk w b C t) (g : Nat) (C' : Array Value) (hn : b ≠ g) : Blk (w.setRow g C') b C t := by
  unfold Blk; rw [setRow_other w g b C' hn]; exact h
theorem Blk.range {w : World} {b : Nat} {C : Array Value} {t : TypeId} (h : Blk w b C t) (o : Nat) (cs : List Value) (hc : ∀ j v, cs[j]? = some v → C[o + j]? = some v) : w.rangeAt b o cs :=
  fun j v hv => h.cell (hc j v hv)
theorem Blk.there {w : World} {b : Nat} {C : Array Value} {t : TypeId} (h : Blk w b C t) (o n : Nat) (hn : o + n ≤ C.size) : w.there b o n := fun j hj => by
  have hlt : o + j < C.size := by omega
  exact ⟨by rw [h.cell (Array.getElem?_eq_getElem hlt)]; rfl, h.fro _⟩

theorem below_setRow {B : Nat} {a w : World} (h : Below B a w) {g : Nat} (hp : B ≤ g) (C : Array Value) : Below B a (w.setRow g C) :=
  h.trans ⟨rfl, rfl, rfl, by simp, fun k hk => setRow_other w g k C (by omega)⟩
theorem below_setCells {B : Nat} {a : World} {b : Nat} (hp : B ≤ b) : ∀ (vs : List Value) (o : Nat) {w : World}, Below B a w → Below B a (w.setCells b o vs)
  | [], _, _, h => h
  | _ :: r, o, _, h => by rw [World.setCells]; exact below_setCells hp r (o + 1) (h.setCell hp _)
theorem below_drewN {B : Nat} {a w : World} (h : Below B a w) (n : Nat) : Below B a (w.drewN n) := ⟨h.os, h.tape, h.output, h.size, h.block⟩
/-- The cells from o on, set one by one. -/
def setFrom (C : Array Value) : Nat → List Value → Array Value
  | _, [] => C
  | o, v :: r => setFrom (C.setIfInBounds o v) (o + 1) r
theorem setFrom_size (vs : List Value) : ∀ (C : Array Value) (o : Nat), (setFrom C o vs).size = C.size := by
  induction vs with
  | nil => intro C o; rfl
  | cons v r ih => intro C o; rw [setFrom, ih]; simp
theorem setFrom_get (vs : List Value) : ∀ (C : Array Value) (o j : Nat), o + vs.length ≤ C.size → (setFrom C o vs)[j]? = if o ≤ j ∧ j < o + vs.length then vs[j - o]? else C[j]? := by
  induction vs with
  | nil => intro C o j _; rw [if_neg (by simp)]; rfl
  | cons v r ih =>
    intro C o j h
    simp only [List.length_cons] at h ⊢
    rw [setFrom, ih _ _ _ (by simp; omega)]
    by_cases h1 : o + 1 ≤ j ∧ j < o + 1 + r.length
    · rw [if_pos h1, if_pos (by omega)]
      obtain ⟨m, rfl⟩ : ∃ m, j = o + 1 + m := ⟨j - (o + 1), by omega⟩
      rw [show o + 1 + m - (o + 1) = m by omega, show o + 1 + m - o = m + 1 by omega]; rfl
    · rw [if_neg h1, Array.getElem?_setIfInBounds]
      by_cases h2 : o = j
      · subst h2; rw [if_pos rfl, if_pos (by omega), if_pos (by omega)]; simp
      · rw [if_neg h2, if_neg (by omega)]
theorem Blk.cellsSame {b : Nat} {t : TypeId} (vs : List Value) : ∀ {w : World} {C : Array Value} (o : Nat), Blk w b C t → Blk (w.setCells b o vs) b (setFrom C o vs) t := by
  induction vs with
  | nil => intro w C o h; exact h
  | cons v r ih => intro w C o h; rw [World.setCells]; exact ih (o + 1) (h.same o v)
theorem Blk.cellsOther {b g : Nat} {C : Array Value} {t : TypeId} (hn : b ≠ g) (vs : List Value) : ∀ {w : World} (o : Nat), Blk w b C t → Blk (w.setCells g o vs) b C t := by
  induction vs with
  | nil => intro w o h; exact h
  | cons v r ih => intro w o h; rw [World.setCells]; exact ih (o + 1) (h.other _ _ hn)

/-! ### Bytes and colourings as cells -/
def bcells (bs : List Nat) : List Value := bs.map fun (x : Nat) => Value.int .u8 (x : Int)
theorem bcells_len (bs : List Nat) : (bcells bs).length = bs.length := by simp [bcells]
theorem bcells_get (bs : List Nat) (k : Nat) (h : k < bs.length) : (bcells bs)[k]? = some (.int .u8 (bs[k]'h : Nat)) := by simp [bcells, h]
theorem bcells_one (bs : List Nat) : (bcells bs).toArray.all (·.oneCell') = true := by
  refine Array.all_eq_true_iff_forall_mem.2 (fun v hv => ?_)
  simp only [List.mem_toArray, bcells, List.mem_map] at hv
  obtain ⟨x, _, rfl⟩ := hv; rfl
def zbl : List Nat := List.replicate 136 0
theorem zbl_len : zbl.length = 136 := by simp [zbl]
/-- The cells of a colouring: the points, the colours, the edges. -/
def ccells (n k : Int) (bs : List Nat) : List Value := .int .i64 n :: .int .i64 k :: bcells bs
theorem ccells_len (n k : Int) (bs : List Nat) : (ccells n k bs).length = bs.length + 2 := by simp [ccells, bcells_len]
theorem ccells_one (n k : Int) (bs : List Nat) : (ccells n k bs).toArray.all (·.oneCell') = true := by
  have := bcells_one bs
  simp [ccells, Value.oneCell'] at this ⊢; exact this
theorem ccells_get (n k : Int) (bs : List Nat) (j : Nat) (h : j < bs.length) : (ccells n k bs).toArray[2 + j]? = some (.int .u8 (bs[j]'h : Nat)) := by
  rw [show 2 + j = j + 1 + 1 by omega]
  simp only [ccells, List.getElem?_toArray, List.getElem?_cons_succ]
  exact bcells_get bs j h
theorem ccells_set (n k : Int) (bs : List Nat) (j : Nat) (x : Nat) : (ccells n k bs).toArray.setIfInBounds (2 + j) (.int .u8 (x : Int)) = (ccells n k (bs.set j x)).toArray := by
  rw [show 2 + j = j + 1 + 1 by omega]
  simp [ccells, bcells, List.map_set]
theorem ccells_set0 (n n' k : Int) (bs : List Nat) : (ccells n k bs).toArray.setIfInBounds 0 (.int .i64 n') = (ccells n' k bs).toArray := by simp [ccells]
theorem ccells_set1 (n k k' : Int) (bs : List Nat) : (ccells n k bs).toArray.setIfInBounds 1 (.int .i64 k') = (ccells n k' bs).toArray := by simp [ccells]
theorem ccells_edges (n k : Int) (bs cs : List Nat) (h : bs.length = cs.length) : setFrom (ccells n k bs).toArray 2 (bcells cs) = (ccells n k cs).toArray := by
  apply Array.ext_getElem?
  intro j
  rw [setFrom_get _ _ _ _ (by simp [ccells_len, bcells_len]; omega)]
  by_cases h1 : 2 ≤ j ∧ j < 2 + (bcells cs).length
  · rw [if_pos h1]
    obtain ⟨m, rfl⟩ : ∃ m, j = m + 2 := ⟨j - 2, by omega⟩
    simp [ccells]
  · rw [if_neg h1]
    rw [bcells_len] at h1
    match j, h1 with
    | 0, _ => simp [ccells]
    | 1, _ => simp [ccells]
    | m + 2, h1 => rw [Array.getElem?_eq_none (by simp [ccells_len]; omega), Array.getElem?_eq_none (by simp [ccells_len]; omega)]
theorem bcells_inj {a b : List Nat} (h : bcells a = bcells b) : a = b := by
  induction a generalizing b with
  | nil => cases b with
    | nil => rfl
    | cons y b => simp [bcells] at h
  | cons x a ih => cases b with
    | nil => simp [bcells] at h
    | cons y b =>
      simp only [bcells, List.map_cons, List.cons.injEq, Value.int.injEq, true_and] at h
      rw [show x = y by omega, ih h.2]
/-- Cells that are the bytes up to k. -/
def Cop (bs : List Nat) (k : Nat) (C : Array Value) : Prop := C.size = 136 ∧ ∀ j, j < k → C[j]? = (bcells bs)[j]?
theorem Cop.step {bs : List Nat} {k : Nat} {C : Array Value} (h : Cop bs k C) (hk : k < 136) (v : Value) (hv : (bcells bs)[k]? = some v) : Cop bs (k + 1) (C.setIfInBounds k v) := by
  refine ⟨by simp [h.1], fun j hj => ?_⟩
  rw [Array.getElem?_setIfInBounds]
  by_cases e : k = j
  · subst e; rw [if_pos rfl, if_pos (by rw [h.1]; exact hk), hv]
  · rw [if_neg e]; exact h.2 j (by omega)
theorem Cop.done {bs : List Nat} {C : Array Value} (hl : bs.length = 136) (h : Cop bs 136 C) : C = (bcells bs).toArray := by
  apply Array.ext_getElem?
  intro j
  by_cases hj : j < 136
  · rw [h.2 j hj]; simp
  · rw [Array.getElem?_eq_none (by rw [h.1]; omega), Array.getElem?_eq_none (by simp [bcells_len, hl]; omega)]
end Go.Proofs.YtlnelmickndoaaaDoor
/- What a colouring is, as plain arithmetic over its points, its colours and its 136 bytes. -/
namespace Go.Proofs.YtlnelmickndoaaaDoor
open Go Go.RowKit

/-- 136 bytes. -/
structure Bys (bs : List Nat) : Prop where
  len : bs.length = 136
  lt : ∀ j, bs.getD j 0 < 256
theorem zbl_get (j : Nat) : zbl.getD j 0 = 0 := by
  unfold zbl
  rw [List.getD_eq_getElem?_getD, List.getElem?_replicate]
  split <;> rfl
theorem zbl_bys : Bys zbl := ⟨zbl_len, fun j => by rw [zbl_get]; omega⟩
theorem Bys.set {bs : List Nat} (h : Bys bs) (j x : Nat) (hx : x < 256) : Bys (bs.set j x) := ⟨by simp [h.len], fun i => by
  have h1 := h.lt i
  simp only [List.getD] at h1 ⊢
  rw [List.getElem?_set]
  split
  · split
    · exact hx
    · simp
  · exact h1⟩
theorem Bys.get {bs : List Nat} (h : Bys bs) {j : Nat} (hj : j < 136) : (bcells bs)[j]? = some (.int .u8 ((bs.getD j 0 : Nat) : Int)) := by
  have hl : j < bs.length := by rw [h.len]; exact hj
  rw [bcells_get bs j hl]; simp [List.getD, hl]
theorem Bys.cget {bs : List Nat} (h : Bys bs) (n k : Int) {j : Nat} (hj : j < 136) : (ccells n k bs).toArray[2 + j]? = some (.int .u8 ((bs.getD j 0 : Nat) : Int)) := by
  have hl : j < bs.length := by rw [h.len]; exact hj
  rw [ccells_get n k bs j hl]; simp [List.getD, hl]
theorem Bys.ext {a b : List Nat} (ha : Bys a) (hb : Bys b) (h : ∀ j, j < 136 → a.getD j 0 = b.getD j 0) : a = b := by
  apply List.ext_getElem?
  intro j
  by_cases hj : j < 136
  · have h1 := h j hj
    have la : j < a.length := by rw [ha.len]; exact hj
    have lb : j < b.length := by rw [hb.len]; exact hj
    simp only [List.getD, List.getElem?_eq_getElem la, List.getElem?_eq_getElem lb, Option.getD_some] at h1 ⊢
    rw [h1]
  · rw [List.getElem?_eq_none (by rw [ha.len]; omega), List.getElem?_eq_none (by rw [hb.len]; omega)]

/-- The number of edges between n points. -/
def edg (n : Int) : Int := n * (n - 1) / 2
theorem mul_bd {n : Int} (h1 : 1 ≤ n) (h2 : n ≤ 17) : 0 ≤ n * (n - 1) ∧ n * (n - 1) ≤ 272 :=
  ⟨Int.mul_nonneg (by omega) (by omega), Int.le_trans (Int.mul_le_mul h2 (show n - 1 ≤ 16 by omega) (by omega) (by omega)) (by omega)⟩
theorem edg_bd {n : Int} (h1 : 1 ≤ n) (h2 : n ≤ 17) : 0 ≤ edg n ∧ edg n ≤ 136 := by
  have := mul_bd h1 h2
  unfold edg; omega

def shapeB (n k : Int) : Bool := decide (1 ≤ n) && decide (n ≤ 17) && (decide (1 ≤ k) && decide (k ≤ 4))
theorem shape_mk {n k : Int} (h1 : 1 ≤ n) (h2 : n ≤ 17) (h3 : 1 ≤ k) (h4 : k ≤ 4) : shapeB n k = true := by simp [shapeB, h1, h2, h3, h4]
theorem shape_bd {n k : Int} (h : shapeB n k = true) : 1 ≤ n ∧ n ≤ 17 ∧ 1 ≤ k ∧ k ≤ 4 := by
  simp [shapeB] at h; omega
theorem shape_no {n k : Int} (h : shapeB n k = false) : n < 1 ∨ 17 < n ∨ k < 1 ∨ 4 < k := by
  simp only [shapeB, Bool.and_eq_false_iff, decide_eq_false_iff_not] at h; omega

/-- Is the byte at place j as a colouring has it? -/
def goodAt (n k : Int) (bs : List Nat) (j : Nat) : Bool := if (j : Int) < edg n then decide (((bs.getD j 0 : Nat) : Int) < k) else bs.getD j 0 == 0
theorem good_lo {n k : Int} {bs : List Nat} {j : Nat} (h : (j : Int) < edg n) (hv : ((bs.getD j 0 : Nat) : Int) < k) : goodAt n k bs j = true := by
  unfold goodAt; rw [if_pos h]; simpa using hv
theorem good_hi {n k : Int} {bs : List Nat} {j : Nat} (h : edg n ≤ (j : Int)) (hv : bs.getD j 0 = 0) : goodAt n k bs j = true := by
  unfold goodAt; rw [if_neg (by omega)]; simpa using hv
theorem bad_lo {n k : Int} {bs : List Nat} {j : Nat} (h : (j : Int) < edg n) (hv : k ≤ ((bs.getD j 0 : Nat) : Int)) : goodAt n k bs j = false := by
  unfold goodAt; rw [if_pos h]; simpa using hv
theorem bad_hi {n k : Int} {bs : List Nat} {j : Nat} (h : edg n ≤ (j : Int)) (hv : bs.getD j 0 ≠ 0) : goodAt n k bs j = false := by
  unfold goodAt; rw [if_neg (by omega)]; simpa using hv
/-- Is it a colouring? -/
def isCol (n k : Int) (bs : List Nat) : Bool := shapeB n k && (List.range 136).all (goodAt n k bs)
theorem isCol_yes {n k : Int} {bs : List Nat} (hs : shapeB n k = true) (h : ∀ j, j < 136 → goodAt n k bs j = true) : isCol n k bs = true := by
  unfold isCol; rw [hs, Bool.true_and, List.all_eq_true]; intro j hj; exact h j (by simpa using hj)
theorem isCol_shape {n k : Int} {bs : List Nat} (hs : shapeB n k = false) : isCol n k bs = false := by
  unfold isCol; rw [hs]; rfl
theorem isCol_bad {n k : Int} {bs : List Nat} {j : Nat} (hj : j < 136) (h : goodAt n k bs j = false) : isCol n k bs = false := by
  unfold isCol
  rw [Bool.and_eq_false_iff]; right
  rw [List.all_eq_false]; exact ⟨j, by simpa using hj, by rw [h]; simp⟩
theorem isCol_good {n k : Int} {bs : List Nat} (h : isCol n k bs = true) : shapeB n k = true ∧ ∀ j, j < 136 → goodAt n k bs j = true := by
  unfold isCol at h
  rw [Bool.and_eq_true, List.all_eq_true] at h
  exact ⟨h.1, fun j hj => h.2 j (by simpa using hj)⟩
end Go.Proofs.YtlnelmickndoaaaDoor
/- Facts on the program's types, each reckoned by the kernel. -/
namespace Go.Proofs.YtlnelmickndoaaaDoor
open Go Go.RowKit
end Go.Proofs.YtlnelmickndoaaaDoor
namespace Go.Proofs.YtlnelmickndoaaaDoor
open Go Go.RowKit
end Go.Proofs.YtlnelmickndoaaaDoor
namespace Go.Proofs.YtlnelmickndoaaaDoor
open Go Go.RowKit
theorem in49_yes (n lo hi : Int) (w : World) (h1 : lo ≤ n) (h2 : n ≤ hi) : Calls Tryd.prog 6 #[.int .i64 n, .int .i64 lo, .int .i64 hi] w fun e w' => e = .returned (.bool true) ∧ w = w' := by
  go_enter Tryd.func6, Tryd.ntmps6
  go_wp2
  go_ret
  exact ⟨rfl, rfl⟩
end Go.Proofs.YtlnelmickndoaaaDoor
namespace Go.Proofs.YtlnelmickndoaaaDoor
open Go Go.RowKit
end Go.Proofs.YtlnelmickndoaaaDoor
namespace Go.Proofs.YtlnelmickndoaaaDoor
open Go Go.RowKit
end Go.Proofs.YtlnelmickndoaaaDoor
namespace Go.Proofs.YtlnelmickndoaaaDoor
open Go Go.RowKit Go.ChangeShapes Go.WideShapes
section
variable {H : Type} {enc : TypeId × Value → H} {w : World} {base : Nat} {spare : Nat → Bool} {held : Bool}
theorem cells5 : Tryd.prog.cellsOf 5 = 1 := by kernel_rfl
theorem cells2 : Tryd.prog.cellsOf 2 = 1 := by kernel_rfl
def byteAt : Value → Nat | .int _ n => n.toNat | _ => 0
theorem u8_bd {n : Int} (h : (Lit.int .u8 n).wf = true) : 0 ≤ n ∧ n < 256 := by
  have := bounds_u8 h; omega
/-- The bounds of a number that fits. -/
theorem i64_bd {n : Int} (h : (Lit.int .i64 n).wf = true) : -9223372036854775808 ≤ n ∧ n ≤ 9223372036854775807 := by
  have := bounds_i64 h; omega
end
end Go.Proofs.YtlnelmickndoaaaDoor
/- The numbers of edges; the tests of numbers and lists; the colour of an edge. -/
namespace Go.Proofs.YtlnelmickndoaaaDoor
open Go Go.RowKit
/-- The number of the edge of two points. -/
def eix (i j : Int) : Int := if j < i then edg i + j else edg j + i
theorem edg_step (n : Int) : edg (n + 1) = edg n + n := by
  unfold edg
  have e : (n + 1) * (n + 1 - 1) = n * (n - 1) + n * 2 := by
    rw [show n + 1 - 1 = n by omega, show n * 2 = n * 1 + n * 1 by omega, Int.mul_sub, Int.add_mul]; omega
  rw [e, Int.add_mul_ediv_right _ _ (by omega)]
theorem edg_mono {a b : Int} (h0 : 0 ≤ a) (h : a ≤ b) : edg a ≤ edg b := by
  obtain ⟨d, rfl⟩ : ∃ d : Nat, b = a + d := ⟨(b - a).toNat, by omega⟩
  clear h
  induction d with
  | zero => simp
  | succ d ih =>
    have := edg_step (a + d)
    rw [show a + ((d + 1 : Nat) : Int) = a + d + 1 by omega, this]; omega
theorem edg_pos {a : Int} (h0 : 0 ≤ a) : 0 ≤ edg a := by
  have := edg_mono (show (0 : Int) ≤ 0 by omega) h0
  have e : edg 0 = 0 := by decide
  omega
theorem eix_bd {n i j : Int} (hn : n ≤ 17) (hi0 : 0 ≤ i) (hi : i < n) (hj0 : 0 ≤ j) (hj : j < n) (hij : i ≠ j) : 0 ≤ eix i j ∧ eix i j < edg n ∧ eix i j < 136 := by
  have h17 := (edg_bd (show 1 ≤ n by omega) hn).2
  unfold eix
  split
  · have h1 := edg_mono (show 0 ≤ i + 1 by omega) (show i + 1 ≤ n by omega)
    have h2 := edg_step i
    have h3 := edg_pos hi0
    omega
  · have h1 := edg_mono (show 0 ≤ j + 1 by omega) (show j + 1 ≤ n by omega)
    have h2 := edg_step j
    have h3 := edg_pos hj0
    omega
theorem eix_comm {i j : Int} (h : i ≠ j) : eix i j = eix j i := by
  unfold eix; split <;> split <;> omega
theorem mul16 {n : Int} (h1 : 0 ≤ n) (h2 : n ≤ 16) : 0 ≤ n * (n - 1) ∧ n * (n - 1) ≤ 240 := by
  by_cases h : n = 0
  · subst h; decide
  · exact ⟨Int.mul_nonneg h1 (by omega), Int.le_trans (Int.mul_le_mul h2 (show n - 1 ≤ 15 by omega) (by omega) (by omega)) (by omega)⟩
/-- The colour at an edge. -/
def colAt (bs : List Nat) (i j : Int) : Int := ((bs.getD (eix i j).toNat 0 : Nat) : Int)
theorem colAt_bd {bs : List Nat} (hb : Bys bs) (i j : Int) : 0 ≤ colAt bs i j ∧ colAt bs i j < 256 := by
  have := hb.lt (eix i j).toNat
  unfold colAt; omega
end Go.Proofs.YtlnelmickndoaaaDoor
/- Tests of numbers, pairs and lists, and the code of what is given. -/
namespace Go.Proofs.YtlnelmickndoaaaDoor
open Go Go.RowKit
def inB (n lo hi : Int) : Bool := decide (lo ≤ n) && decide (n ≤ hi)
theorem inB_yes {n lo hi : Int} (h1 : lo ≤ n) (h2 : n ≤ hi) : inB n lo hi = true := by simp [inB, h1, h2]
theorem inB_no {n lo hi : Int} (h : ¬ (lo ≤ n ∧ n ≤ hi)) : inB n lo hi = false := by
  simp only [inB, Bool.and_eq_false_iff, decide_eq_false_iff_not]; omega
theorem inB_bd {n lo hi : Int} (h : inB n lo hi = true) : lo ≤ n ∧ n ≤ hi := by simpa [inB] using h
theorem inB_out {n lo hi : Int} (h : inB n lo hi = false) : ¬ (lo ≤ n ∧ n ≤ hi) := by
  simp only [inB, Bool.and_eq_false_iff, decide_eq_false_iff_not] at h; omega
theorem in49 (n lo hi : Int) (w : World) : Calls Tryd.prog 6 #[.int .i64 n, .int .i64 lo, .int .i64 hi] w fun e w' => e = .returned (.bool (inB n lo hi)) ∧ w = w' := by
  by_cases h1 : lo ≤ n
  · by_cases h2 : n ≤ hi
    · rw [inB_yes h1 h2]; exact in49_yes n lo hi w h1 h2
    · have H := hidd (inB_no (n := n) (lo := lo) (hi := hi) (by omega))
      have hd : decide (n ≤ hi) = false := by simpa using h2
      clear h2
      go_enter Tryd.func6, Tryd.ntmps6
      go_wp2
      go_ret
      exact ⟨by rw [H.out]; rfl, rfl⟩
  · have H := hidd (inB_no (n := n) (lo := lo) (hi := hi) (by omega))
    have hd : decide (lo ≤ n) = false := by simpa using h1
    clear h1
    go_enter Tryd.func6, Tryd.ntmps6
    go_wp2
    go_ret
    exact ⟨by rw [H.out]; rfl, rfl⟩
/-- impl.isBelow -/
def belowB (n m : Int) : Bool := inB n 0 (m - 1)
/-- impl.arePointPair -/
def pairB (i j n : Int) : Bool := belowB i n && belowB j n && decide (i ≠ j)
theorem pairB_yes {i j n : Int} (h1 : belowB i n = true) (h2 : belowB j n = true) (h3 : i ≠ j) : pairB i j n = true := by simp [pairB, h1, h2, h3]
theorem pairB_no1 {i j n : Int} (h1 : belowB i n = false) : pairB i j n = false := by simp [pairB, h1]
theorem pairB_no2 {i j n : Int} (h1 : belowB j n = false) : pairB i j n = false := by simp [pairB, h1]
theorem pairB_no3 {i n : Int} : pairB i i n = false := by simp [pairB]
theorem pairB_bd {i j n : Int} (h : pairB i j n = true) : 0 ≤ i ∧ i < n ∧ 0 ≤ j ∧ j < n ∧ i ≠ j := by
  simp only [pairB, Bool.and_eq_true, decide_eq_true_eq] at h
  obtain ⟨⟨h1, h2⟩, h3⟩ := h
  have := inB_bd h1; have := inB_bd h2
  exact ⟨by omega, by omega, by omega, by omega, h3⟩
/-- The elements of a slice of numbers lie where it leads. -/
def SlI (w : World) (a : Option Addr) (zs : List Int) : Prop := zs = [] ∨ ∃ b off, a = some ⟨b, off, none⟩ ∧ ∀ j, j < zs.length → w.cell? ⟨b, off + j, none⟩ = some (.int .i64 (zs.getD j 0))
theorem SlI.below {w w' : World} {B : Nat} {a : Option Addr} {zs : List Int} (h : SlI w a zs) (hb : Below B w w') (hB : w.heap.size ≤ B) : SlI w' a zs := by
  rcases h with h | ⟨b, off, ha, hc⟩
  · exact .inl h
  · refine .inr ⟨b, off, ha, fun j hj => ?_⟩
    have hcj := hc j hj
    have hlt := block_lt_of_cell hcj
    rw [hb.cell (p := ⟨b, off + j, none⟩) (by show b < B; exact Nat.lt_of_lt_of_le hlt hB)]; exact hcj
/-- Are all numbers of a list from 0 to k - 1? -/
def allB (zs : List Int) (k : Int) : Bool := zs.all fun z => belowB z k
theorem allB_yes {zs : List Int} {k : Int} (h : ∀ j, j < zs.length → belowB (zs.getD j 0) k = true) : allB zs k = true := by
  unfold allB
  rw [List.all_eq_true]
  intro z hz
  obtain ⟨j, hj, rfl⟩ := List.mem_iff_getElem.1 hz
  have := h j hj
  simpa [List.getD, hj] using this
theorem allB_no {zs : List Int} {k : Int} {j : Nat} (hj : j < zs.length) (h : belowB (zs.getD j 0) k = false) : allB zs k = false := by
  unfold allB
  rw [List.all_eq_false]
  refine ⟨zs[j], List.getElem_mem hj, ?_⟩
  have : zs.getD j 0 = zs[j] := by simp [List.getD, hj]
  rw [this] at h; rw [h]; simp
theorem allB_get {zs : List Int} {k : Int} (h : allB zs k = true) {j : Nat} (hj : j < zs.length) : 0 ≤ zs.getD j 0 ∧ zs.getD j 0 < k := by
  unfold allB at h
  rw [List.all_eq_true] at h
  have h1 := inB_bd (h zs[j] (List.getElem_mem hj))
  have : zs.getD j 0 = zs[j] := by simp [List.getD, hj]
  rw [this]; omega
end Go.Proofs.YtlnelmickndoaaaDoor
/- The code of a colouring, a colour and points. -/
namespace Go.Proofs.YtlnelmickndoaaaDoor
open Go Go.RowKit
theorem isCol_bd {n k : Int} {bs : List Nat} (h : isCol n k bs = true) : 1 ≤ n ∧ n ≤ 17 ∧ 1 ≤ k ∧ k ≤ 4 := shape_bd (isCol_good h).1
def given (n k : Int) (bs : List Nat) (c : Int) (zs : List Int) : Int := if isCol n k bs then (if belowB c k && allB zs n then 0 else 2) else 1
theorem given_1 {n k : Int} {bs : List Nat} {c : Int} {zs : List Int} (h : isCol n k bs = false) : given n k bs c zs = 1 := by simp [given, h]
theorem given_2 {n k : Int} {bs : List Nat} {c : Int} {zs : List Int} (h : isCol n k bs = true) (h2 : (belowB c k && allB zs n) = false) : given n k bs c zs = 2 := by
  unfold given; rw [if_pos h, h2]; rfl
theorem given_0 {n k : Int} {bs : List Nat} {c : Int} {zs : List Int} (h : isCol n k bs = true) (h1 : belowB c k = true) (h2 : allB zs n = true) : given n k bs c zs = 0 := by simp [given, h, h1, h2]
end Go.Proofs.YtlnelmickndoaaaDoor
/- ColourOf: the program and its model. -/
namespace Go.Proofs.YtlnelmickndoaaaDoor
open Go Go.RowKit
/-- The code of an edge that is asked for. -/
def codeE (n k : Int) (bs : List Nat) (i j : Int) : Int := if isCol n k bs then (if pairB i j n then 0 else 2) else 1
def colE (n k : Int) (bs : List Nat) (i j : Int) : Int := if isCol n k bs && pairB i j n then colAt bs i j else 0
theorem codeE_1 {n k : Int} {bs : List Nat} {i j : Int} (h : isCol n k bs = false) : codeE n k bs i j = 1 ∧ colE n k bs i j = 0 := by simp [codeE, colE, h]
theorem codeE_2 {n k : Int} {bs : List Nat} {i j : Int} (h : isCol n k bs = true) (h2 : pairB i j n = false) : codeE n k bs i j = 2 ∧ colE n k bs i j = 0 := by simp [codeE, colE, h, h2]
theorem codeE_0 {n k : Int} {bs : List Nat} {i j : Int} (h : isCol n k bs = true) (h2 : pairB i j n = true) : codeE n k bs i j = 0 ∧ colE n k bs i j = colAt bs i j := by simp [codeE, colE, h, h2]
theorem all2 (i j n : Int) : allB [i, j] n = (belowB i n && belowB j n) := by simp [allB]
theorem pair_of {i j n : Int} (h : allB [i, j] n = true) (h2 : i ≠ j) : pairB i j n = true := by
  rw [all2, Bool.and_eq_true] at h; exact pairB_yes h.1 h.2 h2
theorem pair_not {i j n : Int} (h : allB [i, j] n = false) : pairB i j n = false := by
  rw [all2, Bool.and_eq_false_iff] at h
  rcases h with h | h
  · exact pairB_no1 h
  · exact pairB_no2 h
theorem below0 {k : Int} (h : 1 ≤ k) : belowB 0 k = true := inB_yes (by omega) (by omega)
theorem sl2 (w : World) (i j : Int) (t : TypeId) (b : Nat) (hb : b = w.heap.size) : SlI (w.alloc (.cells #[.int .i64 i, .int .i64 j] t)) (some ⟨b, 0, none⟩) [i, j] := by
  refine .inr ⟨_, _, rfl, fun m hm => ?_⟩
  have hB := Blk.new w #[.int .i64 i, .int .i64 j] t b hb
  match m, hm with
  | 0, _ => exact hB.cell rfl
  | 1, _ => exact hB.cell rfl
end Go.Proofs.YtlnelmickndoaaaDoor
/- The laws' comparison of two colourings, field by field. -/
namespace Go.Proofs.YtlnelmickndoaaaDoor
set_option linter.unusedVariables false
set_option linter.unusedSimpArgs false
open Go Go.RowKit
end Go.Proofs.YtlnelmickndoaaaDoor
/- Results that hold a colouring. -/
namespace Go.Proofs.YtlnelmickndoaaaDoor
set_option linter.unusedVariables false
set_option linter.unusedSimpArgs false
open Go Go.RowKit
theorem results_row_tmp {P : Program} {fn : Func} {p u : Tmp} {ty : TypeId} (h : fn.results = #[.cell p ty, .tmp u]) (tmps : Array Value) (w : World) (g : Nat) (t : TypeId) (cs : Array Value) (d : TypeDesc)
    (hp : tmps.getD p undef = .pointer (some ⟨g, 0, none⟩)) (hg : Blk w g cs t)
    (hu : P.underlying ty = some d) (hd : (match d with | .struct _ | .array _ _ => true | _ => false) = true) (hi : (P.info? ty).map (·.size) = some cs.size) :
    (results fn tmps).run P w = .ok (.tuple #[.agg cs, tmps.getD u undef]) w := by
  rw [results_cell_tmp h, hp]
  simp [asAddr, Result.andThen, run_loadVar_row w g t ty cs (0, 0) d hg hu hd hi]
theorem size_cc (n k m l : Int) {bs cs : List Nat} (hb : Bys bs) (hc : Bys cs) : (ccells n k bs).toArray.size = (ccells m l cs).toArray.size := by simp [ccells_len, hb.len, hc.len]
/-- A number below 256 as a byte. -/
theorem u8_in {c : Int} (h0 : 0 ≤ c) (h1 : c < 256) : IntKind.u8.wrap c = c := by
  simp [IntKind.wrap, IntKind.bits, IntKind.signed]; omega
/-- The load of a whole row behind a guard that lets it by. -/
theorem wpList_load_if {P : Program} {ops : Array Oper} {rest : List Oper} {o : Oper} {a : Act} {w : World} {Q : Exit → Act → World → Prop} (hw : Region.wanted o (yielded ops a.tmps) = true) (ty : TypeId) (x : Operand) (ho : o.op = .load ty x)
    (g : Nat) (hx : a.eval x = .pointer (some ⟨g, 0, none⟩)) (t : TypeId) (cs : Array Value) (d : TypeDesc) (hg : Blk w g cs t)
    (hu : P.underlying ty = some d) (hd : (match d with | .struct _ | .array _ _ => true | _ => false) = true) (hi : (P.info? ty).map (·.size) = some cs.size)
    (h : wpList P ops Q rest (a.put o.dst (.agg cs)) w) : wpList P ops Q (o :: rest) a w := by
  simp only [wpList, hw, if_true]
  exact .inl (wp_load_row ty x ho g hx t cs (0, 0) d hg hu hd hi h)
end Go.Proofs.YtlnelmickndoaaaDoor
/- ChangeEdge: the program and its model. -/
namespace Go.Proofs.YtlnelmickndoaaaDoor
set_option linter.unusedVariables false
set_option linter.unusedSimpArgs false
open Go Go.RowKit
def setAt (bs : List Nat) (i j c : Int) : List Nat := bs.set (eix i j).toNat c.toNat
theorem setAt_bys {bs : List Nat} (hb : Bys bs) (i j : Int) {c : Int} (h0 : 0 ≤ c) (h1 : c < 256) : Bys (setAt bs i j c) := hb.set _ _ (by omega)
def codeC (n k : Int) (bs : List Nat) (i j c : Int) : Int := if isCol n k bs then (if pairB i j n && belowB c k then 0 else 2) else 1
def chN (n k : Int) (bs : List Nat) (i j c : Int) : Int := if codeC n k bs i j c = 0 then n else 0
def chK (n k : Int) (bs : List Nat) (i j c : Int) : Int := if codeC n k bs i j c = 0 then k else 0
def chB (n k : Int) (bs : List Nat) (i j c : Int) : List Nat := if codeC n k bs i j c = 0 then setAt bs i j c else zbl
/-- What ChangeEdge returns. -/
def chOut (n k : Int) (bs : List Nat) (i j c : Int) : Value := .tuple #[.agg (ccells (chN n k bs i j c) (chK n k bs i j c) (chB n k bs i j c)).toArray, .int .i64 (codeC n k bs i j c)]
theorem chOut_bad {n k : Int} {bs : List Nat} {i j c m : Int} (h : codeC n k bs i j c = m) (hm : m ≠ 0) : chOut n k bs i j c = .tuple #[.agg (ccells 0 0 zbl).toArray, .int .i64 m] := by
  simp [chOut, chN, chK, chB, h, hm]
theorem chOut_good {n k : Int} {bs : List Nat} {i j c : Int} (h : codeC n k bs i j c = 0) : chOut n k bs i j c = .tuple #[.agg (ccells n k (setAt bs i j c)).toArray, .int .i64 0] := by
  simp [chOut, chN, chK, chB, h]
theorem codeC_1 {n k : Int} {bs : List Nat} {i j c : Int} (h : isCol n k bs = false) : codeC n k bs i j c = 1 := by simp [codeC, h]
theorem codeC_2 {n k : Int} {bs : List Nat} {i j c : Int} (h : isCol n k bs = true) (h2 : (pairB i j n && belowB c k) = false) : codeC n k bs i j c = 2 := by
  unfold codeC; rw [if_pos h, h2]; rfl
theorem codeC_0 {n k : Int} {bs : List Nat} {i j c : Int} (h : isCol n k bs = true) (h1 : pairB i j n = true) (h2 : belowB c k = true) : codeC n k bs i j c = 0 := by simp [codeC, h, h1, h2]
theorem codeC_cases (n k : Int) (bs : List Nat) (i j c : Int) : codeC n k bs i j c = 0 ∧ pairB i j n = true ∧ belowB c k = true ∧ isCol n k bs = true ∨ codeC n k bs i j c ≠ 0 := by
  unfold codeC
  cases h : isCol n k bs <;> cases h1 : pairB i j n <;> cases h2 : belowB c k <;> simp
theorem chB_bys {n k : Int} {bs : List Nat} (hb : Bys bs) (i j c : Int) : Bys (chB n k bs i j c) := by
  unfold chB
  rcases codeC_cases n k bs i j c with ⟨h, _, h2, h3⟩ | h
  · rw [if_pos h]
    have := inB_bd h2
    have := isCol_bd h3
    exact setAt_bys hb _ _ (by omega) (by omega)
  · rw [if_neg h]; exact zbl_bys
end Go.Proofs.YtlnelmickndoaaaDoor
/- Lists of numbers: the laws' copies and comparisons, and the program's test of a list. -/
namespace Go.Proofs.YtlnelmickndoaaaDoor
set_option linter.unusedVariables false
set_option linter.unusedSimpArgs false
open Go Go.RowKit
def icells (zs : List Int) : List Value := zs.map (Value.int .i64)
theorem icells_len (zs : List Int) : (icells zs).length = zs.length := by simp [icells]
theorem icells_get {zs : List Int} {j : Nat} (h : j < zs.length) : (icells zs).toArray[j]? = some (.int .i64 (zs.getD j 0)) := by simp [icells, List.getD, h]
theorem sl_of_blk {w : World} {b : Nat} {zs : List Int} {t : TypeId} (h : Blk w b (icells zs).toArray t) : SlI w (some ⟨b, 0, none⟩) zs :=
  .inr ⟨b, 0, rfl, fun j hj => by rw [Nat.zero_add]; exact h.cell (icells_get hj)⟩
def zrow (n : Nat) : Array Value := madeCells #[.int .i64 0] n
theorem zrow_size (n : Nat) : (zrow n).size = n := size_madeCells _ _
theorem info2 : (Tryd.prog.info? 2).map (fun i => (i.zero, i.size, i.bytes)) = some (some (.int .i64 0), 1, 8) := by kernel_rfl
theorem make29 (n : Nat) (h : n ≤ 1048576) (w : World) : (Instr.makeSlice 38 (.int .i64 n) (.int .i64 n)).run Tryd.prog w = .ok (.slice (some ⟨w.heap.size, 0, none⟩) n n) (w.alloc (.cells (zrow n) 2)) := by
  obtain ⟨i, hi, hz0, hz1, hz2⟩ := info_parts info2
  have := run_make (P := Tryd.prog) w 38 2 i (.int .i64 0) Tryd.underlying38 hi hz0 .i64 .i64 n n (by omega) (by omega) (by rw [hz2]; omega) (by omega)
  rw [this, hz1]
  simp [zrow, Value.cells]
/-- Cells that are the numbers up to k. -/
def Cin (zs : List Int) (k : Nat) (C : Array Value) : Prop := C.size = zs.length ∧ ∀ j, j < k → C[j]? = (icells zs)[j]?
theorem Cin.step {zs : List Int} {k : Nat} {C : Array Value} (h : Cin zs k C) (hk : k < zs.length) : Cin zs (k + 1) (C.setIfInBounds k (.int .i64 (zs.getD k 0))) := by
  refine ⟨by simp [h.1], fun j hj => ?_⟩
  rw [Array.getElem?_setIfInBounds]
  by_cases e : k = j
  · subst e; rw [if_pos rfl, if_pos (by rw [h.1]; exact hk)]
    have := icells_get hk
    simpa using this.symm
  · rw [if_neg e]; exact h.2 j (by omega)
theorem Cin.done {zs : List Int} {C : Array Value} (h : Cin zs zs.length C) : C = (icells zs).toArray := by
  apply Array.ext_getElem?
  intro j
  by_cases hj : j < zs.length
  · rw [h.2 j hj]; simp
  · rw [Array.getElem?_eq_none (by rw [h.1]; omega), Array.getElem?_eq_none (by simp [icells_len]; omega)]
def Rel19 (zs : List Int) (a : Option Addr) (w : World) (k : Nat) (C : Array Value) (wr : World) : Prop := SlI wr a zs ∧ Blk wr w.heap.size C 2 ∧ Cin zs k C ∧ Below w.heap.size w wr
theorem SlI.setOwn {w wr : World} {a : Option Addr} {zs : List Int} (h : SlI w a zs) (hb : Below w.heap.size w wr) : SlI wr a zs := h.below hb (Nat.le_refl _)
def Rel22 (zs : List Int) (a b : Option Addr) (w : World) (wr : World) : Prop := SlI wr a zs ∧ SlI wr b zs ∧ Below w.heap.size w wr
end Go.Proofs.YtlnelmickndoaaaDoor
/- PutPoint: the program and its model. -/
namespace Go.Proofs.YtlnelmickndoaaaDoor
set_option linter.unusedVariables false
set_option linter.unusedSimpArgs false
open Go Go.RowKit
/-- The bytes with numbers put in from a place on. -/
def putK (bs : List Nat) (E : Nat) (zs : List Int) : Nat → List Nat
  | 0 => bs
  | k + 1 => (putK bs E zs k).set (E + k) (zs.getD k 0).toNat
theorem putK_bys {bs : List Nat} (hb : Bys bs) (E : Nat) {zs : List Int} (hz : ∀ j, j < zs.length → 0 ≤ zs.getD j 0 ∧ zs.getD j 0 < 256) : ∀ k, k ≤ zs.length → Bys (putK bs E zs k)
  | 0, _ => hb
  | k + 1, h => (putK_bys hb E hz k (by omega)).set _ _ (by have := hz k (by omega); omega)
theorem eix_last {i n : Int} (h0 : 0 ≤ i) (h : i < n) : eix i n = edg n + i := by unfold eix; rw [if_neg (by omega)]
theorem edg_last {n : Int} (h1 : 1 ≤ n) (h2 : n ≤ 16) : edg n + n ≤ 136 := by
  have := edg_step n
  have := (edg_bd (show 1 ≤ n + 1 by omega) (show n + 1 ≤ 17 by omega)).2
  omega
theorem below_at61 {B : Nat} {a w : World} (h : Below B a w) {b o : Nat} (hb : B ≤ b) (v : Value) : Below B a (w.setCell ⟨b, o, none⟩ v) := h.setCell hb v
def codeP (n k : Int) (bs : List Nat) (zs : List Int) : Int := if isCol n k bs then (if (zs.length : Int) = n ∧ allB zs k = true then (if n = 17 then 3 else 0) else 2) else 1
def ppN (n k : Int) (bs : List Nat) (zs : List Int) : Int := if codeP n k bs zs = 0 then n + 1 else 0
def ppK (n k : Int) (bs : List Nat) (zs : List Int) : Int := if codeP n k bs zs = 0 then k else 0
def ppB (n k : Int) (bs : List Nat) (zs : List Int) : List Nat := if codeP n k bs zs = 0 then putK bs (edg n).toNat zs zs.length else zbl
/-- What PutPoint returns. -/
def outP (n k : Int) (bs : List Nat) (zs : List Int) : Value := .tuple #[.agg (ccells (ppN n k bs zs) (ppK n k bs zs) (ppB n k bs zs)).toArray, .int .i64 (codeP n k bs zs)]
theorem outP_bad {n k : Int} {bs : List Nat} {zs : List Int} {m : Int} (h : codeP n k bs zs = m) (hm : m ≠ 0) : outP n k bs zs = .tuple #[.agg (ccells 0 0 zbl).toArray, .int .i64 m] := by
  simp [outP, ppN, ppK, ppB, h, hm]
theorem outP_good {n k : Int} {bs : List Nat} {zs : List Int} (h : codeP n k bs zs = 0) : outP n k bs zs = .tuple #[.agg (ccells (n + 1) k (putK bs (edg n).toNat zs zs.length)).toArray, .int .i64 0] := by
  simp [outP, ppN, ppK, ppB, h]
theorem codeP_1 {n k : Int} {bs : List Nat} {zs : List Int} (h : isCol n k bs = false) : codeP n k bs zs = 1 := by simp [codeP, h]
theorem codeP_2 {n k : Int} {bs : List Nat} {zs : List Int} (h : isCol n k bs = true) (h2 : ¬ (zs.length : Int) = n ∨ allB zs k = false) : codeP n k bs zs = 2 := by
  unfold codeP; rw [if_pos h, if_neg]
  rintro ⟨h3, h4⟩
  rcases h2 with h2 | h2
  · exact h2 h3
  · rw [h4] at h2; cases h2
theorem codeP_3 {n k : Int} {bs : List Nat} {zs : List Int} (h : isCol n k bs = true) (h2 : (zs.length : Int) = n) (h3 : allB zs k = true) (h4 : n = 17) : codeP n k bs zs = 3 := by
  unfold codeP; rw [if_pos h, if_pos ⟨h2, h3⟩, if_pos h4]
theorem codeP_0 {n k : Int} {bs : List Nat} {zs : List Int} (h : isCol n k bs = true) (h2 : (zs.length : Int) = n) (h3 : allB zs k = true) (h4 : ¬ n = 17) : codeP n k bs zs = 0 := by
  unfold codeP; rw [if_pos h, if_pos ⟨h2, h3⟩, if_neg h4]
theorem ppB_bys {n k : Int} {bs : List Nat} (hb : Bys bs) (zs : List Int) : Bys (ppB n k bs zs) := by
  unfold ppB
  split
  · rename_i h
    unfold codeP at h
    split at h
    · rename_i hc
      split at h
      · rename_i h2
        have := isCol_bd hc
        exact putK_bys hb _ (fun j hj => by have := allB_get h2.2 hj; omega) _ (Nat.le_refl _)
      · omega
    · omega
  · exact zbl_bys
end Go.Proofs.YtlnelmickndoaaaDoor
/- Lists that a call makes: what is owned, marked and held. -/
namespace Go.Proofs.YtlnelmickndoaaaDoor
set_option linter.unusedVariables false
set_option linter.unusedSimpArgs false
open Go Go.RowKit
theorem own_below {w w' : World} {base : Nat} {e : TypeId} {size : Nat} {v : Value} {n : Nat} {xs : List Value} (h : w.ownsRow base e size v n xs) {B : Nat} (hb : Below B w w') (hB : w.heap.size ≤ B) : w'.ownsRow base e size v n xs := by
  refine ⟨h.1, ?_⟩
  rcases h.2 with h2 | ⟨g, cap, cur, hv, hg, hc, r⟩
  · exact .inl h2
  · have hlt : g < w.heap.size := (Array.getElem?_eq_some_iff.1 hc).1
    exact .inr ⟨g, cap, cur, hv, hg, by rw [hb.block g (by omega)]; exact hc, r⟩
/-- A list of the call's own, from block B on. -/
def OwnL (w : World) (B : Nat) (a : Option Addr) (zs : List Int) : Prop :=
  zs = [] ∨ ∃ g C, B ≤ g ∧ a = some ⟨g, 0, none⟩ ∧ Blk w g C 2 ∧ zs.length ≤ C.size ∧ ∀ j, j < zs.length → C[j]? = some (.int .i64 (zs.getD j 0))
theorem OwnL.below {w w' : World} {B : Nat} {a : Option Addr} {zs : List Int} (h : OwnL w B a zs) {B' : Nat} (hb : Below B' w w') (hB : w.heap.size ≤ B') : OwnL w' B a zs := by
  rcases h with h | ⟨g, C, h1, h2, h3, h4⟩
  · exact .inl h
  · exact .inr ⟨g, C, h1, h2, h3.below hb (by have := h3.lt; omega), h4⟩
/-- What lies wholly below a block that is written stays. -/
theorem OwnL.sl {w : World} {B : Nat} {a : Option Addr} {zs : List Int} (h : OwnL w B a zs) : SlI w a zs := by
  rcases h with h | ⟨g, C, h1, h2, h3, h4, h5⟩
  · exact .inl h
  · exact .inr ⟨g, 0, h2, fun j hj => by rw [Nat.zero_add]; exact h3.cell (h5 j hj)⟩
theorem own_list {w : World} {B : Nat} {v : Value} {zs : List Int} (h : w.ownsRow B 2 1 v zs.length (icells zs)) : ∃ a cap, v = .slice a zs.length cap ∧ OwnL w B a zs := by
  obtain ⟨_, h | ⟨g, cap, cur, hv, hg, hc, hn, _, hs, ht⟩⟩ := h
  · obtain ⟨rfl, h0⟩ := h
    have hz : zs = [] := List.length_eq_zero_iff.1 h0
    subst hz
    exact ⟨none, 0, rfl, .inl rfl⟩
  · refine ⟨some ⟨g, 0, none⟩, cap, hv, .inr ⟨g, cur, hg, rfl, hc, by omega, fun j hj => ?_⟩⟩
    have h1 : (cur.toList.take (zs.length * 1))[j]? = (icells zs)[j]? := by rw [ht]
    rw [List.getElem?_take, if_pos (by omega)] at h1
    have h2 := icells_get hj
    simp only [List.getElem?_toArray] at h2
    rw [h2] at h1
    simpa using h1
/-- The numbers that the laws lay into a list. -/
def marks (k : Int) (n : Nat) : List Int := (List.range n).map fun (j : Nat) => k + (j : Int)
theorem marks_len (k : Int) (n : Nat) : (marks k n).length = n := by simp [marks]
theorem marks_get {k : Int} {n j : Nat} (h : j < n) : (marks k n).getD j 0 = k + (j : Int) := by simp [marks, List.getD, h]
def RelM (C : Array Value) (k : Int) (g : Nat) (w : World) (j : Nat) (D : Array Value) (wr : World) : Prop :=
  Blk wr g D 2 ∧ D.size = C.size ∧ (∀ m, m < j → D[m]? = some (.int .i64 (k + (m : Int)))) ∧ Below g w wr
end Go.Proofs.YtlnelmickndoaaaDoor
