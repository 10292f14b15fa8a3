/- My texts Baa, in one. -/
import Derived.WalkKit
import Derived.Deep.MidRow
import Derived.Deep.WholeRow
import Derived.Deep.QuietTactic
import Derived.BigQuiet
import Derived.Test.YtckffliiidgilaaDoorProg
import Derived.Outline
import Derived.ProofKit
import Derived.OpenShut
import Derived.Carry
import Derived.StillTailTactics
import Derived.RangeFuncFrom
import Derived.RangeFuncKeeps
import Derived.RangeFuncLeaves
import Derived.Shelf.Abstract
import Derived.OwnWalkIn
import Derived.TacticsInMore
import Derived.LoopNIn
import Derived.LoopIn
import Derived.TacticsIn
import Derived.BigFrameIn
import Derived.Shelf.RegionOpen
import Derived.RangeFuncNested
/- My texts Ga, Gb, in one. -/
/- My texts Base, Col, Types, Sl, SpecIs, ImplIs, Conv, Open, Edge, Tests, Given, ColourOf, Eq, Res, ChangeEdge, Lists, PutPoint, Own, in one. -/
/- Blocks of cells that a call owns, and whole rows loaded and stored: plain lemmas over the world, with no program in them. -/
namespace Go.Proofs.YtckffliiidgilaaDoor
open Go Go.RowKit

theorem hidd {p : Prop} (h : p) : Hid p := h

/-- Block b of w is a row of the cells C that may be written. -/
def Blk (w : World) (b : Nat) (C : Array Value) (t : TypeId) : Prop := w.heap[b]? = some (.cells C t (0, 0))

theorem Blk.cell {w : World} {b : Nat} {C : Array Value} {t : TypeId} (h : Blk w b C t) {j : Nat} {v : Value} (hv : C[j]? = some v) : w.cell? ⟨b, j, none⟩ = some v := by
  rw [cell_of_row w b j C t (0, 0) h]; exact hv
theorem Blk.fro {w : World} {b : Nat} {C : Array Value} {t : TypeId} (h : Blk w b C t) (j : Nat) : w.frozen? ⟨b, j, none⟩ = false := frozen_of_row w b j C t h
theorem Blk.same {w : World} {b : Nat} {C : Array Value} {t : TypeId} (h : Blk w b C t) (j : Nat) (v : Value) : Blk (w.setCell ⟨b, j, none⟩ v) b (C.setIfInBounds j v) t := heap_setCell_same w b j C t v h
theorem Blk.other {w : World} {b : Nat} {C : Array Value} {t : TypeId} (h : Blk w b C t) (a : Addr) (v : Value) (hn : b ≠ a.block) : Blk (w.setCell a v) b C t := by
  unfold Blk; rw [heap_setCell_other w a b v hn]; exact h
theorem Blk.lt {w : World} {b : Nat} {C : Array Value} {t : TypeId} (h : Blk w b C t) : b < w.heap.size := by
  unfold Blk at h; exact (Array.getElem?_eq_some_iff.1 h).1
theorem Blk.alloc {w : World} {b : Nat} {C : Array Value} {t : TypeId} (h : Blk w b C t) (o : Obj) : Blk (w.alloc o) b C t := by
  unfold Blk; rw [Below.heap_alloc w o b h.lt]; exact h
theorem Blk.new (w : World) (C : Array Value) (t : TypeId) (b : Nat) (hb : b = w.heap.size) : Blk (w.alloc (.cells C t)) b C t := by subst hb; exact heap_alloc_new w _
theorem Blk.below {w w' : World} {B b : Nat} {C : Array Value} {t : TypeId} (h : Blk w b C t) (hb : Below B w w') (hl : b < B) : Blk w' b C t := by
  unfold Blk; rw [hb.block b hl]; exact h
theorem Blk.drew {w : World} {b : Nat} {C : Array Value} {t : TypeId} (h : Blk w b C t) : Blk w.drew b C t := h
theorem Blk.drewN {w : World} {b : Nat} {C : Array Value} {t : TypeId} (h : Blk w b C t) (n : Nat) : Blk (w.drewN n) b C t := h
theorem Blk.rowSame {w : World} {b : Nat} {C : Array Value} {t : TypeId} (h : Blk w b C t) (C' : Array Value) : Blk (w.setRow b C') b C' t := setRow_heap w b C C' t (0, 0) h
theorem Blk.rowOther {w : World} {b : Nat} {C : Array Value} {t : TypeId} (h : Blk w b C t) (g : Nat) (C' : Array Value) (hn : b ≠ g) : Blk (w.setRow g C') b C t := by
  unfold Blk; rw [setRow_other w g b C' hn]; exact h
theorem Blk.range {w : World} {b : Nat} {C : Array Value} {t : TypeId} (h : Blk w b C t) (o : Nat) (cs : List Value) (hc : ∀ j v, cs[j]? = some v → C[o + j]? = some v) : w.rangeAt b o cs :=
  fun j v hv => h.cell (hc j v hv)
theorem Blk.there {w : World} {b : Nat} {C : Array Value} {t : TypeId} (h : Blk w b C t) (o n : Nat) (hn : o + n ≤ C.size) : w.there b o n := fun j hj => by
  have hlt : o + j < C.size := by omega
  exact ⟨by rw [h.cell (Array.getElem?_eq_getElem hlt)]; rfl, h.fro _⟩

theorem below_setRow {B : Nat} {a w : World} (h : Below B a w) {g : Nat} (hp : B ≤ g) (C : Array Value) : Below B a (w.setRow g C) :=
  h.trans ⟨rfl, rfl, rfl, by simp, fun k hk => setRow_other w g k C (by omega)⟩
theorem below_setCells {B : Nat} {a : World} {b : Nat} (hp : B ≤ b) : ∀ (vs : List Value) (o : Nat) {w : World}, Below B a w → Below B a (w.setCells b o vs)
  | [], _, _, h => h
  | _ :: r, o, _, h => by rw [World.setCells]; exact below_setCells hp r (o + 1) (h.setCell hp _)
theorem below_drewN {B : Nat} {a w : World} (h : Below B a w) (n : Nat) : Below B a (w.drewN n) := ⟨h.os, h.tape, h.output, h.size, h.block⟩
/-- The cells from o on, set one by one. -/
def setFrom (C : Array Value) : Nat → List Value → Array Value
  | _, [] => C
  | o, v :: r => setFrom (C.setIfInBounds o v) (o + 1) r
theorem setFrom_size (vs : List Value) : ∀ (C : Array Value) (o : Nat), (setFrom C o vs).size = C.size := by
  induction vs with
  | nil => intro C o; rfl
  | cons v r ih => intro C o; rw [setFrom, ih]; simp
theorem setFrom_get (vs : List Value) : ∀ (C : Array Value) (o j : Nat), o + vs.length ≤ C.size → (setFrom C o vs)[j]? = if o ≤ j ∧ j < o + vs.length then vs[j - o]? else C[j]? := by
  induction vs with
  | nil => intro C o j _; rw [if_neg (by simp)]; rfl
  | cons v r ih =>
    intro C o j h
    simp only [List.length_cons] at h ⊢
    rw [setFrom, ih _ _ _ (by simp; omega)]
    by_cases h1 : o + 1 ≤ j ∧ j < o + 1 + r.length
    · rw [if_pos h1, if_pos (by omega)]
      obtain ⟨m, rfl⟩ : ∃ m, j = o + 1 + m := ⟨j - (o + 1), by omega⟩
      rw [show o + 1 + m - (o + 1) = m by omega, show o + 1 + m - o = m + 1 by omega]; rfl
    · rw [if_neg h1, Array.getElem?_setIfInBounds]
      by_cases h2 : o = j
      · subst h2; rw [if_pos rfl, if_pos (by omega), if_pos (by omega)]; simp
      · rw [if_neg h2, if_neg (by omega)]
theorem Blk.cellsSame {b : Nat} {t : TypeId} (vs : List Value) : ∀ {w : World} {C : Array Value} (o : Nat), Blk w b C t → Blk (w.setCells b o vs) b (setFrom C o vs) t := by
  induction vs with
  | nil => intro w C o h; exact h
  | cons v r ih => intro w C o h; rw [World.setCells]; exact ih (o + 1) (h.same o v)
theorem Blk.cellsOther {b g : Nat} {C : Array Value} {t : TypeId} (hn : b ≠ g) (vs : List Value) : ∀ {w : World} (o : Nat), Blk w b C t → Blk (w.setCells g o vs) b C t := by
  induction vs with
  | nil => intro w o h; exact h
  | cons v r ih => intro w o h; rw [World.setCells]; exact ih (o + 1) (h.other _ _ hn)

/-! ### Bytes and colourings as cells -/
def bcells (bs : List Nat) : List Value := bs.map fun (x : Nat) => Value.int .u8 (x : Int)
theorem bcells_len (bs : List Nat) : (bcells bs).length = bs.length := by simp [bcells]
theorem bcells_get (bs : List Nat) (k : Nat) (h : k < bs.length) : (bcells bs)[k]? = some (.int .u8 (bs[k]'h : Nat)) := by simp [bcells, h]
theorem bcells_one (bs : List Nat) : (bcells bs).toArray.all (·.oneCell') = true := by
  refine Array.all_eq_true_iff_forall_mem.2 (fun v hv => ?_)
  simp only [List.mem_toArray, bcells, List.mem_map] at hv
  obtain ⟨x, _, rfl⟩ := hv; rfl
def zbl : List Nat := List.replicate 136 0
theorem zbl_len : zbl.length = 136 := by simp [zbl]
/-- The cells of a colouring: the points, the colours, the edges. -/
def ccells (n k : Int) (bs : List Nat) : List Value := .int .i64 n :: .int .i64 k :: bcells bs
theorem ccells_len (n k : Int) (bs : List Nat) : (ccells n k bs).length = bs.length + 2 := by simp [ccells, bcells_len]
theorem ccells_one (n k : Int) (bs : List Nat) : (ccells n k bs).toArray.all (·.oneCell') = true := by
  have := bcells_one bs
  simp [ccells, Value.oneCell'] at this ⊢; exact this
theorem ccells_get (n k : Int) (bs : List Nat) (j : Nat) (h : j < bs.length) : (ccells n k bs).toArray[2 + j]? = some (.int .u8 (bs[j]'h : Nat)) := by
  rw [show 2 + j = j + 1 + 1 by omega]
  simp only [ccells, List.getElem?_toArray, List.getElem?_cons_succ]
  exact bcells_get bs j h
theorem ccells_set (n k : Int) (bs : List Nat) (j : Nat) (x : Nat) : (ccells n k bs).toArray.setIfInBounds (2 + j) (.int .u8 (x : Int)) = (ccells n k (bs.set j x)).toArray := by
  rw [show 2 + j = j + 1 + 1 by omega]
  simp [ccells, bcells, List.map_set]
theorem ccells_set0 (n n' k : Int) (bs : List Nat) : (ccells n k bs).toArray.setIfInBounds 0 (.int .i64 n') = (ccells n' k bs).toArray := by simp [ccells]
theorem ccells_set1 (n k k' : Int) (bs : List Nat) : (ccells n k bs).toArray.setIfInBounds 1 (.int .i64 k') = (ccells n k' bs).toArray := by simp [ccells]
theorem ccells_edges (n k : Int) (bs cs : List Nat) (h : bs.length = cs.length) : setFrom (ccells n k bs).toArray 2 (bcells cs) = (ccells n k cs).toArray := by
  apply Array.ext_getElem?
  intro j
  rw [setFrom_get _ _ _ _ (by simp [ccells_len, bcells_len]; omega)]
  by_cases h1 : 2 ≤ j ∧ j < 2 + (bcells cs).length
  · rw [if_pos h1]
    obtain ⟨m, rfl⟩ : ∃ m, j = m + 2 := ⟨j - 2, by omega⟩
    simp [ccells]
  · rw [if_neg h1]
    rw [bcells_len] at h1
    match j, h1 with
    | 0, _ => simp [ccells]
    | 1, _ => simp [ccells]
    | m + 2, h1 => rw [Array.getElem?_eq_none (by simp [ccells_len]; omega), Array.getElem?_eq_none (by simp [ccells_len]; omega)]
theorem bcells_inj {a b : List Nat} (h : bcells a = bcells b) : a = b := by
  induction a generalizing b with
  | nil => cases b with
    | nil => rfl
    | cons y b => simp [bcells] at h
  | cons x a ih => cases b with
    | nil => simp [bcells] at h
    | cons y b =>
      simp only [bcells, List.map_cons, List.cons.injEq, Value.int.injEq, true_and] at h
      rw [show x = y by omega, ih h.2]
/-- Cells that are the bytes up to k. -/
def Cop (bs : List Nat) (k : Nat) (C : Array Value) : Prop := C.size = 136 ∧ ∀ j, j < k → C[j]? = (bcells bs)[j]?
theorem Cop.step {bs : List Nat} {k : Nat} {C : Array Value} (h : Cop bs k C) (hk : k < 136) (v : Value) (hv : (bcells bs)[k]? = some v) : Cop bs (k + 1) (C.setIfInBounds k v) := by
  refine ⟨by simp [h.1], fun j hj => ?_⟩
  rw [Array.getElem?_setIfInBounds]
  by_cases e : k = j
  · subst e; rw [if_pos rfl, if_pos (by rw [h.1]; exact hk), hv]
  · rw [if_neg e]; exact h.2 j (by omega)
theorem Cop.done {bs : List Nat} {C : Array Value} (hl : bs.length = 136) (h : Cop bs 136 C) : C = (bcells bs).toArray := by
  apply Array.ext_getElem?
  intro j
  by_cases hj : j < 136
  · rw [h.2 j hj]; simp
  · rw [Array.getElem?_eq_none (by rw [h.1]; omega), Array.getElem?_eq_none (by simp [bcells_len, hl]; omega)]
end Go.Proofs.YtckffliiidgilaaDoor
/- What a colouring is, as plain arithmetic over its points, its colours and its 136 bytes. -/
namespace Go.Proofs.YtckffliiidgilaaDoor
open Go Go.RowKit

/-- 136 bytes. -/
structure Bys (bs : List Nat) : Prop where
  len : bs.length = 136
  lt : ∀ j, bs.getD j 0 < 256
theorem zbl_get (j : Nat) : zbl.getD j 0 = 0 := by
  unfold zbl
  rw [List.getD_eq_getElem?_getD, List.getElem?_replicate]
  split <;> rfl
theorem zbl_bys : Bys zbl := ⟨zbl_len, fun j => by rw [zbl_get]; omega⟩
theorem Bys.set {bs : List Nat} (h : Bys bs) (j x : Nat) (hx : x < 256) : Bys (bs.set j x) := ⟨by simp [h.len], fun i => by
  have h1 := h.lt i
  simp only [List.getD] at h1 ⊢
  rw [List.getElem?_set]
  split
  · split
    · exact hx
    · simp
  · exact h1⟩
theorem Bys.get {bs : List Nat} (h : Bys bs) {j : Nat} (hj : j < 136) : (bcells bs)[j]? = some (.int .u8 ((bs.getD j 0 : Nat) : Int)) := by
  have hl : j < bs.length := by rw [h.len]; exact hj
  rw [bcells_get bs j hl]; simp [List.getD, hl]
theorem Bys.cget {bs : List Nat} (h : Bys bs) (n k : Int) {j : Nat} (hj : j < 136) : (ccells n k bs).toArray[2 + j]? = some (.int .u8 ((bs.getD j 0 : Nat) : Int)) := by
  have hl : j < bs.length := by rw [h.len]; exact hj
  rw [ccells_get n k bs j hl]; simp [List.getD, hl]
theorem Bys.ext {a b : List Nat} (ha : Bys a) (hb : Bys b) (h : ∀ j, j < 136 → a.getD j 0 = b.getD j 0) : a = b := by
  apply List.ext_getElem?
  intro j
  by_cases hj : j < 136
  · have h1 := h j hj
    have la : j < a.length := by rw [ha.len]; exact hj
    have lb : j < b.length := by rw [hb.len]; exact hj
    simp only [List.getD, List.getElem?_eq_getElem la, List.getElem?_eq_getElem lb, Option.getD_some] at h1 ⊢
    rw [h1]
  · rw [List.getElem?_eq_none (by rw [ha.len]; omega), List.getElem?_eq_none (by rw [hb.len]; omega)]

/-- The number of edges between n points. -/
def edg (n : Int) : Int := n * (n - 1) / 2
theorem mul_bd {n : Int} (h1 : 1 ≤ n) (h2 : n ≤ 17) : 0 ≤ n * (n - 1) ∧ n * (n - 1) ≤ 272 :=
  ⟨Int.mul_nonneg (by omega) (by omega), Int.le_trans (Int.mul_le_mul h2 (show n - 1 ≤ 16 by omega) (by omega) (by omega)) (by omega)⟩
theorem edg_bd {n : Int} (h1 : 1 ≤ n) (h2 : n ≤ 17) : 0 ≤ edg n ∧ edg n ≤ 136 := by
  have := mul_bd h1 h2
  unfold edg; omega

def shapeB (n k : Int) : Bool := decide (1 ≤ n) && decide (n ≤ 17) && (decide (1 ≤ k) && decide (k ≤ 4))
theorem shape_mk {n k : Int} (h1 : 1 ≤ n) (h2 : n ≤ 17) (h3 : 1 ≤ k) (h4 : k ≤ 4) : shapeB n k = true := by simp [shapeB, h1, h2, h3, h4]
theorem shape_bd {n k : Int} (h : shapeB n k = true) : 1 ≤ n ∧ n ≤ 17 ∧ 1 ≤ k ∧ k ≤ 4 := by
  simp [shapeB] at h; omega
theorem shape_no {n k : Int} (h : shapeB n k = false) : n < 1 ∨ 17 < n ∨ k < 1 ∨ 4 < k := by
  simp only [shapeB, Bool.and_eq_false_iff, decide_eq_false_iff_not] at h; omega

/-- Is the byte at place j as a colouring has it? -/
def goodAt (n k : Int) (bs : List Nat) (j : Nat) : Bool := if (j : Int) < edg n then decide (((bs.getD j 0 : Nat) : Int) < k) else bs.getD j 0 == 0
theorem good_lo {n k : Int} {bs : List Nat} {j : Nat} (h : (j : Int) < edg n) (hv : ((bs.getD j 0 : Nat) : Int) < k) : goodAt n k bs j = true := by
  unfold goodAt; rw [if_pos h]; simpa using hv
theorem good_hi {n k : Int} {bs : List Nat} {j : Nat} (h : edg n ≤ (j : Int)) (hv : bs.getD j 0 = 0) : goodAt n k bs j = true := by
  unfold goodAt; rw [if_neg (by omega)]; simpa using hv
theorem bad_lo {n k : Int} {bs : List Nat} {j : Nat} (h : (j : Int) < edg n) (hv : k ≤ ((bs.getD j 0 : Nat) : Int)) : goodAt n k bs j = false := by
  unfold goodAt; rw [if_pos h]; simpa using hv
theorem bad_hi {n k : Int} {bs : List Nat} {j : Nat} (h : edg n ≤ (j : Int)) (hv : bs.getD j 0 ≠ 0) : goodAt n k bs j = false := by
  unfold goodAt; rw [if_neg (by omega)]; simpa using hv
/-- Is it a colouring? -/
def isCol (n k : Int) (bs : List Nat) : Bool := shapeB n k && (List.range 136).all (goodAt n k bs)
theorem isCol_yes {n k : Int} {bs : List Nat} (hs : shapeB n k = true) (h : ∀ j, j < 136 → goodAt n k bs j = true) : isCol n k bs = true := by
  unfold isCol; rw [hs, Bool.true_and, List.all_eq_true]; intro j hj; exact h j (by simpa using hj)
theorem isCol_shape {n k : Int} {bs : List Nat} (hs : shapeB n k = false) : isCol n k bs = false := by
  unfold isCol; rw [hs]; rfl
theorem isCol_bad {n k : Int} {bs : List Nat} {j : Nat} (hj : j < 136) (h : goodAt n k bs j = false) : isCol n k bs = false := by
  unfold isCol
  rw [Bool.and_eq_false_iff]; right
  rw [List.all_eq_false]; exact ⟨j, by simpa using hj, by rw [h]; simp⟩
theorem isCol_good {n k : Int} {bs : List Nat} (h : isCol n k bs = true) : shapeB n k = true ∧ ∀ j, j < 136 → goodAt n k bs j = true := by
  unfold isCol at h
  rw [Bool.and_eq_true, List.all_eq_true] at h
  exact ⟨h.1, fun j hj => h.2 j (by simpa using hj)⟩
end Go.Proofs.YtckffliiidgilaaDoor
/- Facts on the program's types, each reckoned by the kernel. -/
namespace Go.Proofs.YtckffliiidgilaaDoor
open Go Go.RowKit
theorem info22 : (Tryd.prog.info? 22).map (fun i => (i.zero, i.size)) = some (some (.agg (bcells zbl).toArray), 136) := by kernel_rfl
theorem zero22 : ∀ w, (zeroValue 22).run Tryd.prog w = .ok (.agg (bcells zbl).toArray) w := (zero_of_info info22).1
theorem size22 : (Tryd.prog.info? 22).map (·.size) = some 136 := (zero_of_info info22).2
theorem info26 : (Tryd.prog.info? 28).map (fun i => (i.zero, i.size)) = some (some (.agg (ccells 0 0 zbl).toArray), 138) := by kernel_rfl
theorem zero26 : ∀ w, (zeroValue 28).run Tryd.prog w = .ok (.agg (ccells 0 0 zbl).toArray) w := (zero_of_info info26).1
theorem size26 : (Tryd.prog.info? 28).map (·.size) = some 138 := (zero_of_info info26).2
theorem info24 : (Tryd.prog.info? 24).map (fun i => (i.zero, i.size)) = some (some (.agg (ccells 0 0 zbl).toArray), 138) := by kernel_rfl
theorem size24 : (Tryd.prog.info? 24).map (·.size) = some 138 := (zero_of_info info24).2
end Go.Proofs.YtckffliiidgilaaDoor
namespace Go.Proofs.YtckffliiidgilaaDoor
open Go Go.RowKit
theorem slice22_hi (b o E : Nat) (w : World) (h : E ≤ 136) : (Instr.sliceAt 22 (.pointer (some ⟨b, o, none⟩)) none (some (.int .i64 E)) none).run Tryd.prog w = .ok (.slice (some ⟨b, o, none⟩) E 136) w := by
  simp [Instr.sliceAt, Instr.sureAddr, Instr.sliceBounds, Instr.sliceBound, Sem.run_bind, run_underlying Tryd.underlying22, asIntOf, h, Result.andThen, Addr.add]
theorem slice22_lo (b o E : Nat) (w : World) (h : E ≤ 136) : ∃ a, (E < 136 → a = o + E) ∧ (Instr.sliceAt 22 (.pointer (some ⟨b, o, none⟩)) (some (.int .i64 E)) none none).run Tryd.prog w = .ok (.slice (some ⟨b, a, none⟩) (136 - E) (136 - E)) w := by
  by_cases e : E = 136
  · subst e
    exact ⟨o, by omega, by simp [Instr.sliceAt, Instr.sureAddr, Instr.sliceBounds, Instr.sliceBound, Sem.run_bind, run_underlying Tryd.underlying22, asIntOf, Result.andThen]⟩
  · refine ⟨o + E, fun _ => rfl, ?_⟩
    have e2 : ¬ 136 = E := fun h => e h.symm
    by_cases z : E = 0
    · subst z
      simp [Instr.sliceAt, Instr.sureAddr, Instr.sliceBounds, Instr.sliceBound, Sem.run_bind, run_underlying Tryd.underlying22, asIntOf, Result.andThen, Addr.add]
    · simp [Instr.sliceAt, Instr.sureAddr, Instr.sliceBounds, Instr.sliceBound, Sem.run_bind, run_underlying Tryd.underlying22, asIntOf, h, e2, z, Result.andThen, Addr.add]
end Go.Proofs.YtckffliiidgilaaDoor
namespace Go.Proofs.YtckffliiidgilaaDoor
open Go Go.RowKit
set_option maxRecDepth 100000 in
set_option maxHeartbeats 400000 in
theorem l01Is_no (n k : Int) (C : Array Value) (w : World) (hC0 : C[0]? = some (.int .i64 n)) (hC1 : C[1]? = some (.int .i64 k)) (h : n < 1 ∨ 17 < n ∨ k < 1 ∨ 4 < k) :
    Calls Tryd.prog 77 #[.agg C] w fun e w' => e = .returned (.bool false) ∧ Below w.heap.size w w' := by
  by_cases h1 : n < 1
  · clear h
    go_enter Tryd.func77, Tryd.ntmps77
    go_wp2
    go_ret
    exact ⟨rfl, (Below.refl _ _).alloc (Nat.le_refl _) _⟩
  · by_cases h2 : 17 < n
    · clear h
      have h1' : 1 ≤ n := by omega
      go_enter Tryd.func77, Tryd.ntmps77
      go_wp2
      go_ret
      exact ⟨rfl, (Below.refl _ _).alloc (Nat.le_refl _) _⟩
    · have h1' : 1 ≤ n := by omega
      have h2' : n ≤ 17 := by omega
      by_cases h3 : k < 1
      · clear h
        go_enter Tryd.func77, Tryd.ntmps77
        go_wp2
        go_ret
        exact ⟨rfl, (Below.refl _ _).alloc (Nat.le_refl _) _⟩
      · have h3' : 1 ≤ k := by omega
        have h4 : decide (k ≤ 4) = false := by simp; omega
        clear h
        go_enter Tryd.func77, Tryd.ntmps77
        go_wp2
        go_ret
        exact ⟨rfl, (Below.refl _ _).alloc (Nat.le_refl _) _⟩
theorem in49_yes (n lo hi : Int) (w : World) (h1 : lo ≤ n) (h2 : n ≤ hi) : Calls Tryd.prog 59 #[.int .i64 n, .int .i64 lo, .int .i64 hi] w fun e w' => e = .returned (.bool true) ∧ w = w' := by
  go_enter Tryd.func59, Tryd.ntmps59
  go_wp2
  go_ret
  exact ⟨rfl, rfl⟩
def Rel45 (w : World) (n k : Int) (bs : List Nat) (C : Array Value) (j : Nat) (wr : World) : Prop :=
  Blk wr w.heap.size C 28 ∧ (∀ i, i < j → goodAt n k bs i = true) ∧ Below w.heap.size w wr
set_option maxRecDepth 100000 in
set_option maxHeartbeats 1000000 in
theorem l01Is_any (n k : Int) (bs : List Nat) (hb : Bys bs) (w : World) :
    Calls Tryd.prog 77 #[.agg (ccells n k bs).toArray] w fun e w' => e = .returned (.bool (isCol n k bs)) ∧ Below w.heap.size w w' := by
  obtain ⟨C, hC⟩ : ∃ C, C = (ccells n k bs).toArray := ⟨_, rfl⟩
  have hC0 : C[0]? = some (.int .i64 n) := by rw [hC]; rfl
  have hC1 : C[1]? = some (.int .i64 k) := by rw [hC]; rfl
  have hCg : ∀ j, j < 136 → C[2 + j]? = some (.int .u8 ((bs.getD j 0 : Nat) : Int)) := fun j hj => by rw [hC]; exact hb.cget n k hj
  rw [← hC]
  have HC := hidd hC
  have HCg := hidd hCg
  clear hC hCg
  by_cases hs : shapeB n k = true
  · obtain ⟨h1, h2, h3, h4⟩ := shape_bd hs
    have HS := hidd hs
    clear hs
    have hm := mul_bd h1 h2
    obtain ⟨hm0, hm1⟩ := hm
    have he := edg_bd h1 h2
    obtain ⟨he0, he1⟩ := he
    have HE := hidd (show edg n = n * (n - 1) / 2 from rfl)
    go_enter Tryd.func77, Tryd.ntmps77
    go_wp2_with (go_at_call 59; refine (in49_yes _ _ _ _ (by omega) (by omega)).mono ?_; rintro e w' ⟨rfl, rfl⟩)
    go_loopw [4] (fun e wr => ∃ j : Nat, j ≤ 136 ∧ e = .int .i64 j ∧ Rel45 w n k bs C j wr) (fun e _ => 136 - (intOf e).toNat)
    case atStart =>
      exact ⟨0, by omega, rfl, Blk.new _ _ _ _ rfl, fun i hi => absurd hi (by omega), (Below.refl _ _).alloc (Nat.le_refl _) _⟩
    case round =>
      obtain ⟨j, hj, rfl, HR⟩ := hrel
      have hw0 := HR.1.cell hC0
      have hw1 := HR.1.cell hC1
      by_cases hlt : j < 136
      · have hw2 := HR.1.cell (HCg.out j hlt)
        have hx256 := hb.lt j
        obtain ⟨x, hx⟩ : ∃ x, x = bs.getD j 0 := ⟨_, rfl⟩
        rw [← hx] at hw2 hx256
        have HX := hidd hx
        clear hx
        have hwr : IntKind.i64.wrap (x : Int) = x := IntWalk.i64_in _ (by omega)
        have HRR := hidd HR
        clear HR
        by_cases hje : (j : Int) < n * (n - 1) / 2
        · by_cases hv : (x : Int) < k
          · have hd : decide (k ≤ (x : Int)) = false := by simp; omega
            have hd2 : decide (n * (n - 1) / 2 ≤ (j : Int)) = false := by simp; omega
            have hg := hidd (good_lo (n := n) (k := k) (bs := bs) (j := j) (by rw [HE.out]; exact hje) (by rw [← HX.out]; exact hv))
            go_wp2
            go_quiet (fail)
            go_wp2
            go_roundw
            case rel => exact ⟨j + 1, by omega, by go_num, HRR.out.1.drewN _, fun i hi => by
              by_cases e : i = j
              · subst e; exact hg.out
              · exact HRR.out.2.1 i (by omega), below_drewN HRR.out.2.2 _⟩
            case measure => simp [intOf]; omega
          · have hd : decide (k ≤ (x : Int)) = true := by simp; omega
            have hg := hidd (isCol_bad (n := n) (k := k) (bs := bs) hlt (bad_lo (by rw [HE.out]; exact hje) (by rw [← HX.out]; omega)))
            go_wp2
            go_quiet (fail)
            go_wp2
            go_ret
            exact ⟨by rw [hg.out]; rfl, below_drewN HRR.out.2.2 _⟩
        · have hd1 : decide ((j : Int) < n * (n - 1) / 2) = false := by simp; omega
          have hd2 : decide (n * (n - 1) / 2 ≤ (j : Int)) = true := by simp; omega
          by_cases hv : x = 0
          · have hg := hidd (good_hi (n := n) (k := k) (bs := bs) (j := j) (by rw [HE.out]; omega) (by rw [← HX.out]; exact hv))
            have hz : ((x : Int) != 0) = false := by subst hv; rfl
            clear hv
            go_wp2
            go_quiet (fail)
            go_wp2
            go_roundw
            case rel => exact ⟨j + 1, by omega, by go_num, HRR.out.1.drewN _, fun i hi => by
              by_cases e : i = j
              · subst e; exact hg.out
              · exact HRR.out.2.1 i (by omega), below_drewN HRR.out.2.2 _⟩
            case measure => simp [intOf]; omega
          · have hg := hidd (isCol_bad (n := n) (k := k) (bs := bs) hlt (bad_hi (by rw [HE.out]; omega) (by rw [← HX.out]; omega)))
            have hz : ((x : Int) != 0) = true := by rw [bne_iff_ne]; omega
            go_wp2
            go_quiet (fail)
            go_wp2
            go_ret
            exact ⟨by rw [hg.out]; rfl, below_drewN HRR.out.2.2 _⟩
      · have hj6 : j = 136 := by omega
        subst hj6
        have hg := hidd (isCol_yes HS.out HR.2.1)
        go_wp2
        go_ret
        exact ⟨by rw [hg.out]; rfl, HR.2.2⟩
  · have hs' : shapeB n k = false := by simpa using hs
    rw [isCol_shape hs']
    exact l01Is_no n k C w hC0 hC1 (shape_no hs')
end Go.Proofs.YtckffliiidgilaaDoor
namespace Go.Proofs.YtckffliiidgilaaDoor
open Go Go.RowKit
theorem shape47_no (n k : Int) (w : World) (h : n < 1 ∨ 17 < n ∨ k < 1 ∨ 4 < k) :
    Calls Tryd.prog 104 #[.int .i64 n, .int .i64 k] w fun e w' => e = .returned (.bool false) ∧ w = w' := by
  by_cases h1 : n < 1
  · clear h
    go_enter Tryd.func104, Tryd.ntmps104
    go_wp2
    go_ret
    exact ⟨rfl, rfl⟩
  · have h1' : 1 ≤ n := by omega
    by_cases h2 : 17 < n
    · clear h
      go_enter Tryd.func104, Tryd.ntmps104
      go_wp2
      go_ret
      exact ⟨rfl, rfl⟩
    · have h2' : n ≤ 17 := by omega
      by_cases h3 : k < 1
      · clear h
        go_enter Tryd.func104, Tryd.ntmps104
        go_wp2
        go_ret
        exact ⟨rfl, rfl⟩
      · have h3' : 1 ≤ k := by omega
        have h4 : decide (k ≤ 4) = false := by simp; omega
        clear h
        go_enter Tryd.func104, Tryd.ntmps104
        go_wp2
        go_ret
        exact ⟨rfl, rfl⟩
theorem shape47_yes (n k : Int) (w : World) (h1 : 1 ≤ n) (h2 : n ≤ 17) (h3 : 1 ≤ k) (h4 : k ≤ 4) :
    Calls Tryd.prog 104 #[.int .i64 n, .int .i64 k] w fun e w' => e = .returned (.bool true) ∧ w = w' := by
  go_enter Tryd.func104, Tryd.ntmps104
  go_wp2
  go_ret
  exact ⟨rfl, rfl⟩
theorem edge48 (n : Int) (w : World) (h1 : 1 ≤ n) (h2 : n ≤ 17) :
    Calls Tryd.prog 105 #[.int .i64 n] w fun e w' => e = .returned (.int .i64 (edg n)) ∧ w = w' := by
  have hm := mul_bd h1 h2
  obtain ⟨hm0, hm1⟩ := hm
  go_enter Tryd.func105, Tryd.ntmps105
  go_wp2
  go_ret
  exact ⟨rfl, rfl⟩
theorem implIs_no (n k : Int) (C : Array Value) (w : World) (hC0 : C[0]? = some (.int .i64 n)) (hC1 : C[1]? = some (.int .i64 k)) (h : n < 1 ∨ 17 < n ∨ k < 1 ∨ 4 < k) :
    Calls Tryd.prog 88 #[.agg C] w fun e w' => e = .returned (.bool false) ∧ Below w.heap.size w w' := by
  have H := hidd h
  clear h
  go_enter Tryd.func88, Tryd.ntmps88
  go_wp2_with (go_at_call 104; refine (shape47_no _ _ _ H.out).mono ?_; rintro e w' ⟨rfl, rfl⟩)
  go_ret
  exact ⟨rfl, (Below.refl _ _).alloc (Nat.le_refl _) _⟩
def RelA17 (w : World) (n k : Int) (bs : List Nat) (C : Array Value) (j : Nat) (wr : World) : Prop :=
  Blk wr w.heap.size C 28 ∧ (∀ i, i < j → goodAt n k bs i = true) ∧ Below w.heap.size w wr
set_option maxRecDepth 100000 in
set_option maxHeartbeats 1000000 in
theorem implIs_any (n k : Int) (bs : List Nat) (hb : Bys bs) (w : World) :
    Calls Tryd.prog 88 #[.agg (ccells n k bs).toArray] w fun e w' => e = .returned (.bool (isCol n k bs)) ∧ Below w.heap.size w w' := by
  obtain ⟨C, hC⟩ : ∃ C, C = (ccells n k bs).toArray := ⟨_, rfl⟩
  have hC0 : C[0]? = some (.int .i64 n) := by rw [hC]; rfl
  have hC1 : C[1]? = some (.int .i64 k) := by rw [hC]; rfl
  have hCg : ∀ j, j < 136 → C[2 + j]? = some (.int .u8 ((bs.getD j 0 : Nat) : Int)) := fun j hj => by rw [hC]; exact hb.cget n k hj
  rw [← hC]
  have HC := hidd hC
  have HCg := hidd hCg
  clear hC hCg
  by_cases hs : shapeB n k = true
  · obtain ⟨h1, h2, h3, h4⟩ := shape_bd hs
    have HS := hidd hs
    clear hs
    have he := edg_bd h1 h2
    obtain ⟨E, hE⟩ := Int.eq_ofNat_of_zero_le he.1
    have hE1 : E ≤ 136 := by omega
    have HE := hidd hE
    clear he
    rw [show edg n = (E : Int) from hE] at hE
    clear hE
    have hsl1 := fun b o w => slice22_hi b o E w hE1
    go_enter Tryd.func88, Tryd.ntmps88
    go_wp2_with (first | (go_at_call 104; refine (shape47_yes _ _ _ (by omega) (by omega) (by omega) (by omega)).mono ?_; rintro e w' ⟨rfl, rfl⟩) | (go_at_call 105; refine (edge48 _ _ (by omega) (by omega)).mono ?_; rintro e w' ⟨rfl, rfl⟩; rw [HE.out]))
    go_loopw [21] (fun e wr => ∃ j : Nat, j ≤ E ∧ e = .int .i64 j ∧ RelA17 w n k bs C j wr) (fun e _ => E - (intOf e).toNat)
    case atStart =>
      exact ⟨0, by omega, rfl, Blk.new _ _ _ _ rfl, fun i hi => absurd hi (by omega), (Below.refl _ _).alloc (Nat.le_refl _) _⟩
    case round =>
      obtain ⟨j, hj, rfl, HR⟩ := hrel
      have hw1 := HR.1.cell hC1
      by_cases hlt : j < E
      · have hw2 := HR.1.cell (HCg.out j (by omega))
        have hx256 := hb.lt j
        obtain ⟨x, hx⟩ : ∃ x, x = bs.getD j 0 := ⟨_, rfl⟩
        rw [← hx] at hw2 hx256
        have HX := hidd hx
        clear hx
        have hwr : IntKind.i64.wrap (x : Int) = x := IntWalk.i64_in _ (by omega)
        have HRR := hidd HR
        clear HR
        by_cases hv : (x : Int) < k
        · have hd : decide (k ≤ (x : Int)) = false := by simp; omega
          have hg := hidd (good_lo (n := n) (k := k) (bs := bs) (j := j) (by rw [HE.out]; omega) (by rw [← HX.out]; exact hv))
          go_wp2
          go_roundw
          case rel => exact ⟨j + 1, by omega, by go_num, HRR.out.1, fun i hi => by
            by_cases e : i = j
            · subst e; exact hg.out
            · exact HRR.out.2.1 i (by omega), HRR.out.2.2⟩
          case measure => simp [intOf]; omega
        · have hd : decide (k ≤ (x : Int)) = true := by simp; omega
          have hg := hidd (isCol_bad (n := n) (k := k) (bs := bs) (show j < 136 by omega) (bad_lo (by rw [HE.out]; omega) (by rw [← HX.out]; omega)))
          go_wp2
          go_ret
          exact ⟨by rw [hg.out]; rfl, HRR.out.2.2⟩
      · have hjE : j = E := by omega
        subst hjE
        obtain ⟨wo, rfl⟩ : ∃ wo : World, wo = wr := ⟨_, rfl⟩
        have HRR := hidd HR
        obtain ⟨p, hp, hsl⟩ := slice22_lo w.heap.size 2 j wo hE1
        have HP := hidd hp
        clear hp HR hw1
        go_wp2
        go_loopw [35] (fun e wr => ∃ i : Nat, i ≤ 136 - j ∧ e = .int .i64 i ∧ RelA17 w n k bs C (j + i) wr) (fun e _ => 136 - j - (intOf e).toNat)
        case atStart => exact ⟨0, by omega, rfl, HRR.out⟩
        case round =>
          obtain ⟨i, hi, rfl, HR2⟩ := hrel
          by_cases hlt2 : i < 136 - j
          · have hw2 := HR2.1.cell (HCg.out (j + i) (by omega))
            obtain rfl := HP.out (by omega)
            rw [show 2 + (j + i) = 2 + j + i by omega] at hw2
            obtain ⟨x, hx⟩ : ∃ x, x = bs.getD (j + i) 0 := ⟨_, rfl⟩
            rw [← hx] at hw2
            have HX := hidd hx
            clear hx
            have HRR2 := hidd HR2
            clear HR2
            by_cases hv : x = 0
            · have hg := hidd (good_hi (n := n) (k := k) (bs := bs) (j := j + i) (by rw [HE.out]; omega) (by rw [← HX.out]; exact hv))
              have hz : ((x : Int) != 0) = false := by subst hv; rfl
              clear hv
              go_wp2
              go_roundw
              case rel => exact ⟨i + 1, by omega, by go_num, HRR2.out.1, fun m hm => by
                by_cases e : m = j + i
                · subst e; exact hg.out
                · exact HRR2.out.2.1 m (by omega), HRR2.out.2.2⟩
              case measure => simp [intOf]; omega
            · have hg := hidd (isCol_bad (n := n) (k := k) (bs := bs) (show j + i < 136 by omega) (bad_hi (by rw [HE.out]; omega) (by rw [← HX.out]; omega)))
              have hz : ((x : Int) != 0) = true := by rw [bne_iff_ne]; omega
              go_wp2
              go_ret
              exact ⟨by rw [hg.out]; rfl, HRR2.out.2.2⟩
          · have hj6 : j + i = 136 := by omega
            rw [hj6] at HR2
            have hg := hidd (isCol_yes HS.out HR2.2.1)
            go_wp2
            go_ret
            exact ⟨by rw [hg.out]; rfl, HR2.2.2⟩
  · have hs' : shapeB n k = false := by simpa using hs
    rw [isCol_shape hs']
    exact implIs_no n k C w hC0 hC1 (shape_no hs')
end Go.Proofs.YtckffliiidgilaaDoor
namespace Go.Proofs.YtckffliiidgilaaDoor
open Go Go.RowKit
def Rel46 (bs : List Nat) (w : World) (k : Nat) (C : Array Value) (wr : World) : Prop := Blk wr w.heap.size (bcells bs).toArray 22 ∧ Blk wr (w.heap.size + 1) (bcells zbl).toArray 22 ∧ Blk wr (w.heap.size + 1 + 1) C 22 ∧ Cop bs k C ∧ Below w.heap.size w wr
set_option maxRecDepth 100000 in
set_option maxHeartbeats 400000 in
theorem toByte_any (bs : List Nat) (w : World) (hb : Bys bs) :
    Calls Tryd.prog 46 #[.agg (bcells bs).toArray] w fun e w' => e = .returned (.agg (bcells bs).toArray) ∧ Below w.heap.size w w' := by
  have Hz := zero22
  go_enter Tryd.func46, Tryd.ntmps46
  go_wp2
  go_loopw [4] (fun i wr => ∃ k : Nat, k ≤ 136 ∧ i = .int .i64 k ∧ ∃ C, Rel46 bs w k C wr)
    (fun i _ => 136 - (intOf i).toNat)
  case atStart =>
    refine ⟨0, by omega, rfl, (bcells zbl).toArray, ?_, ?_, ?_, ⟨by simp [bcells_len, zbl_len], fun j h => absurd h (by omega)⟩, ?_⟩
    · exact ((Blk.new _ _ _ _ rfl).alloc _).alloc _
    · exact (Blk.new _ _ _ _ (by simp)).alloc _
    · exact Blk.new _ _ _ _ (by simp)
    · exact (((Below.refl _ _).alloc (Nat.le_refl _) _).alloc (by simp) _).alloc (by simp; omega) _
  case round =>
    obtain ⟨k, hk, rfl, C, HR⟩ := hrel
    by_cases hlt : k < 136
    · have hg := hb.get hlt
      have hc0 : wr.cell? ⟨w.heap.size, k, none⟩ = some (.int .u8 ((bs.getD k 0 : Nat) : Int)) := HR.1.cell (by simpa using hg)
      obtain ⟨old, hc2⟩ : ∃ old, wr.cell? ⟨w.heap.size + 1 + 1, k, none⟩ = some old := ⟨_, HR.2.2.1.cell (Array.getElem?_eq_getElem (by rw [HR.2.2.2.1.1]; exact hlt))⟩
      have hf2 := HR.2.2.1.fro k
      obtain ⟨x, hx⟩ : ∃ x, x = bs.getD k 0 := ⟨_, rfl⟩
      rw [← hx] at hc0 hg
      have HG := hidd hg
      have HRR := hidd HR
      clear hx hg HR
      go_wp2
      go_roundw
      case rel =>
        refine ⟨k + 1, by omega, by go_num, _, HRR.out.1.other _ _ (by show _ ≠ _ + 1 + 1; omega), HRR.out.2.1.other _ _ (by show _ ≠ _ + 1 + 1; omega), HRR.out.2.2.1.same _ _, HRR.out.2.2.2.1.step hlt _ HG.out, HRR.out.2.2.2.2.setCell (by simp; omega) _⟩
      case measure => simp [intOf]; omega
    · have hk6 : k = 136 := by omega
      subst hk6
      have hC := Cop.done hb.len HR.2.2.2.1
      subst hC
      have HRR := hidd HR
      have h2 := HR.2.1.rowSame (bcells bs).toArray
      have hbel := below_setRow (g := w.heap.size + 1) HR.2.2.2.2 (by omega) (bcells bs).toArray
      have HH := hidd (And.intro h2 hbel)
      clear HR h2 hbel
      have HS := hidd (show (Tryd.prog.info? 22).map (·.size) = some (bcells bs).toArray.size by rw [size22]; simp [bcells_len, hb.len])
      go_wp2_with (first
        | (refine wpList_load_row rfl 22 (.tmp 3) rfl (w.heap.size + 1 + 1) rfl 22 _ (0,0) _ HRR.out.2.2.1 Tryd.underlying22 rfl HS.out ?_)
        | (refine wpList_store_row rfl 22 (.tmp 2) (.tmp 14) rfl (w.heap.size + 1) _ rfl rfl 22 _ HRR.out.2.1 HS.out (by simp [bcells_len, hb.len, zbl_len]) (bcells_one bs) ?_))
      refine bodyPost_ret (results_cell_row rfl _ _ (w.heap.size + 1) 22 _ (0,0) _ rfl HH.out.1 Tryd.underlying22 rfl HS.out) rfl ⟨rfl, HH.out.2⟩
set_option maxRecDepth 100000 in
set_option maxHeartbeats 400000 in
theorem toCol_any (n k : Int) (bs : List Nat) (w : World) (hb : Bys bs) :
    Calls Tryd.prog 14 #[.agg (ccells n k bs).toArray] w fun e w' => e = .returned (.agg (ccells n k bs).toArray) ∧ Below w.heap.size w w' := by
  have Hz := zero26
  obtain ⟨C, hC⟩ : ∃ C, C = (ccells n k bs).toArray := ⟨_, rfl⟩
  have hC0 : C[0]? = some (.int .i64 n) := by rw [hC]; rfl
  have hC1 : C[1]? = some (.int .i64 k) := by rw [hC]; rfl
  obtain ⟨Z, hZ⟩ : ∃ Z, Z = (ccells 0 0 zbl).toArray := ⟨_, rfl⟩
  have hZ0 : Z[0]? = some (.int .i64 0) := by rw [hZ]; rfl
  have hZ1 : Z[1]? = some (.int .i64 0) := by rw [hZ]; rfl
  rw [← hZ] at Hz
  rw [← hC]
  have HC := hidd hC
  have HZ := hidd hZ
  clear hC hZ
  have HR0 := hidd (show ∀ j v, (bcells bs)[j]? = some v → C[2 + j]? = some v by
    rw [HC.out]; intro j v hv; rw [show 2 + j = j + 1 + 1 by omega]; simpa [ccells] using hv)
  have HS := hidd (show (Tryd.prog.info? 22).map (·.size) = some (bcells bs).length by rw [size22]; simp [bcells_len, hb.len])
  go_enter Tryd.func14, Tryd.ntmps14
  go_wp2_with (refine wpList_load_mid rfl 22 (.tmp 10) rfl w.heap.size 2 rfl (bcells bs) _ ((((Blk.new w C 24 _ rfl).alloc _).alloc _).range 2 _ HR0.out) Tryd.underlying22 rfl HS.out ?_)
  refine (toByte_any bs _ hb).mono ?_
  rintro e w1 ⟨rfl, hb1⟩
  have g1 : Blk w1 (w.heap.size + 1) Z 28 := ((Blk.new _ _ _ _ (by simp)).alloc _).below hb1 (by simp)
  have g2 := (Blk.new ((w.alloc (Obj.cells C 24)).alloc (Obj.cells Z 28)) ((Z.setIfInBounds 0 (Value.int IntKind.i64 n)).setIfInBounds 1 (Value.int IntKind.i64 k)) 28 (w.heap.size + 1 + 1) (by simp)).below hb1 (by simp)
  rw [HZ.out, ccells_set0, ccells_set1] at g2
  have g3 : Below w.heap.size w w1 := ((((Below.refl _ _).alloc (Nat.le_refl _) _).alloc (by simp) _).alloc (by simp; omega) _).trans (hb1.mono (by simp; omega))
  have g4 := g2.cellsSame (bcells bs) 2
  rw [ccells_edges _ _ _ _ (by rw [zbl_len, hb.len]), ← HC.out] at g4
  have g5 := g1.cellsOther (g := w.heap.size + 1 + 1) (by omega) (bcells bs) 2
  have g6 := g5.rowSame C
  have g7 := below_setRow (below_setCells (b := w.heap.size + 1 + 1) (by omega) (bcells bs) 2 g3) (g := w.heap.size + 1) (by omega) C
  have HT := hidd (g2.there 2 (bcells bs).toArray.size (by simp [ccells_len, bcells_len, zbl_len, hb.len]))
  have HSS := hidd (show (Tryd.prog.info? 22).map (·.size) = some (bcells bs).toArray.size by rw [size22]; simp [bcells_len, hb.len])
  have HC6 := hidd (show (Tryd.prog.info? 28).map (·.size) = some C.size by rw [size26, HC.out]; simp [ccells_len, hb.len])
  have HO := hidd (show Z.size = C.size by rw [HC.out, HZ.out]; simp [ccells_len, hb.len, zbl_len])
  have HC1 := hidd (show C.all (·.oneCell') = true by rw [HC.out]; exact ccells_one n k bs)
  have G := hidd (And.intro g4 (And.intro g5 (And.intro g6 g7)))
  clear g1 g2 g3 g4 g5 g6 g7 hb1
  go_wp2_with (first
    | (refine wpList_store_mid rfl 22 (.tmp 13) (.tmp 12) rfl (w.heap.size + 1 + 1) 2 _ rfl rfl HT.out HSS.out (bcells_one bs) ?_)
    | (refine wpList_load_row rfl 28 (.tmp 3) rfl (w.heap.size + 1 + 1) rfl 28 _ (0,0) _ G.out.1 Tryd.underlying28 rfl HC6.out ?_)
    | (refine wpList_store_row rfl 28 (.tmp 2) (.tmp 14) rfl (w.heap.size + 1) _ rfl rfl 28 _ G.out.2.1 HC6.out HO.out HC1.out ?_))
  refine bodyPost_ret (results_cell_row rfl _ _ (w.heap.size + 1) 28 _ (0,0) _ rfl G.out.2.2.1 Tryd.underlying28 rfl HC6.out) rfl ⟨rfl, G.out.2.2.2⟩
end Go.Proofs.YtckffliiidgilaaDoor
namespace Go.Proofs.YtckffliiidgilaaDoor
open Go Go.RowKit Go.ChangeShapes Go.WideShapes
section
variable {H : Type} {enc : TypeId × Value → H} {w : World} {base : Nat} {spare : Nat → Bool} {held : Bool}
theorem cells24 : Tryd.prog.cellsOf 24 = 138 := by kernel_rfl
theorem cells22 : Tryd.prog.cellsOf 22 = 136 := by kernel_rfl
theorem cells5 : Tryd.prog.cellsOf 5 = 1 := by kernel_rfl
theorem cells2 : Tryd.prog.cellsOf 2 = 1 := by kernel_rfl
def byteAt : Value → Nat | .int _ n => n.toNat | _ => 0
theorem u8_bd {n : Int} (h : (Lit.int .u8 n).wf = true) : 0 ≤ n ∧ n < 256 := by
  have := bounds_u8 h; omega
/-- The cells of a row of bytes that can be read. -/
theorem open_bytes {fuel : Nat} {cs : List Value} {x : DataW H × List MemPlace} (h : DataW.trod enc Tryd.prog w base spare held fuel 22 cs = some x) :
    ∃ bs, cs = bcells bs ∧ Bys bs := by
  obtain ⟨xs, m, rfl, rfl, hl, hxl, hel⟩ := DataW.trod_array Tryd.underlying22 h
  rw [cells22] at hl
  rw [cells5] at hel
  have each : ∀ i, i < 136 → ∃ n : Int, cs[i]? = some (.int .u8 n) ∧ 0 ≤ n ∧ n < 256 := by
    intro i hi
    have h1 := hel i hi
    have hx : i < xs.length := by omega
    rw [List.getElem?_eq_getElem hx] at h1
    obtain ⟨n, e1, e2, e3⟩ := DataW.trod_int Tryd.underlying5 h1
    refine ⟨n, ?_, u8_bd e3⟩
    have : ((cs.drop (i * 1)).take 1)[0]? = some (.int .u8 n) := by rw [e1]; rfl
    simpa using this
  refine ⟨cs.map byteAt, ?_, ⟨by simpa using hl, ?_⟩⟩
  · apply List.ext_getElem?
    intro i
    by_cases hi : i < 136
    · obtain ⟨n, e1, e3, e4⟩ := each i hi
      simp only [bcells, List.getElem?_map, e1, Option.map_some, byteAt]
      rw [show ((n.toNat : Nat) : Int) = n by omega]
    · rw [List.getElem?_eq_none (by omega), List.getElem?_eq_none (by simp [bcells]; omega)]
  · intro j
    by_cases hi : j < 136
    · obtain ⟨n, e1, e3, e4⟩ := each j hi
      simp only [List.getD, List.getElem?_map, e1, Option.map_some, byteAt, Option.getD_some]; omega
    · simp only [List.getD, List.getElem?_map, List.getElem?_eq_none (show cs.length ≤ j by omega)]; simp
/-- The bounds of a number that fits. -/
theorem i64_bd {n : Int} (h : (Lit.int .i64 n).wf = true) : -9223372036854775808 ≤ n ∧ n ≤ 9223372036854775807 := by
  have := bounds_i64 h; omega
set_option maxRecDepth 100000 in
set_option maxRecDepth 100000 in
set_option maxRecDepth 100000 in
/-- A struct of a colouring's make that can be read. -/
theorem open_col {t : TypeId} (ht : Tryd.prog.underlying t = some (.struct #[{ name := "Points", type := 2, offset := 0, embedded := false, tag := "", pkgPath := "", byteOffset := 0 }, { name := "Colours", type := 2, offset := 1, embedded := false, tag := "", pkgPath := "", byteOffset := 8 }, { name := "Edges", type := 22, offset := 2, embedded := false, tag := "", pkgPath := "", byteOffset := 16 }]))
    (hc : Tryd.prog.cellsOf t = 138) {v : Value} {d : DataW H} {ps : List MemPlace} {r : Reach} {b : Nat} (hv : Value.okWide Tryd.prog w r b t v) (h : DataW.Trod enc Tryd.prog w base spare held t v d ps) :
    ∃ n k bs, v = .agg (ccells n k bs).toArray ∧ Bys bs ∧ (Lit.int .i64 n).wf = true ∧ (Lit.int .i64 k).wf = true := by
  unfold Value.okWide at hv
  rw [ht] at hv
  obtain ⟨cs, rfl, hs, _⟩ := hv
  obtain ⟨fuel, h⟩ := h
  obtain ⟨xs, m, rfl, hx, hl, hxl, hel⟩ := DataW.trod_struct ht h
  have hxl3 : xs.length = 3 := hxl
  have h0 : DataW.trod enc Tryd.prog w base spare held m 2 ((cs.toList.drop 0).take (Tryd.prog.cellsOf 2)) = xs[0]? := hel 0 _ rfl
  have h1 : DataW.trod enc Tryd.prog w base spare held m 2 ((cs.toList.drop 1).take (Tryd.prog.cellsOf 2)) = xs[1]? := hel 1 _ rfl
  have h2 : DataW.trod enc Tryd.prog w base spare held m 22 ((cs.toList.drop 2).take (Tryd.prog.cellsOf 22)) = xs[2]? := hel 2 _ rfl
  rw [cells2] at h0 h1
  rw [cells22] at h2
  rw [List.getElem?_eq_getElem (by omega)] at h0 h1 h2
  obtain ⟨n, e0, _, wn⟩ := DataW.trod_int Tryd.underlying2 h0
  obtain ⟨k, e1, _, wk⟩ := DataW.trod_int Tryd.underlying2 h1
  obtain ⟨bs, e2, hb⟩ := open_bytes h2
  refine ⟨n, k, bs, ?_, hb, wn, wk⟩
  have hlen : cs.toList.length = 138 := by rw [hc] at hs; simpa using hs
  have hcs : cs.toList = ccells n k bs := by
    generalize cs.toList = l at *
    rcases l with _ | ⟨a, _ | ⟨b, r⟩⟩
    · cases hlen
    · cases hlen
    · have hr : r.length = 136 := by rw [List.length_cons, List.length_cons] at hlen; omega
      simp only [List.drop_zero, List.drop_succ_cons, List.take_succ_cons, List.take_zero, List.cons.injEq, and_true] at e0 e1 e2
      rw [List.take_of_length_le (by omega)] at e2
      rw [e0, e1, e2]; rfl
  rw [← hcs]
end
#print axioms open_col
end Go.Proofs.YtckffliiidgilaaDoor
/- The numbers of edges; the tests of numbers and lists; the colour of an edge. -/
namespace Go.Proofs.YtckffliiidgilaaDoor
open Go Go.RowKit
/-- The number of the edge of two points. -/
def eix (i j : Int) : Int := if j < i then edg i + j else edg j + i
theorem edg_step (n : Int) : edg (n + 1) = edg n + n := by
  unfold edg
  have e : (n + 1) * (n + 1 - 1) = n * (n - 1) + n * 2 := by
    rw [show n + 1 - 1 = n by omega, show n * 2 = n * 1 + n * 1 by omega, Int.mul_sub, Int.add_mul]; omega
  rw [e, Int.add_mul_ediv_right _ _ (by omega)]
theorem edg_mono {a b : Int} (h0 : 0 ≤ a) (h : a ≤ b) : edg a ≤ edg b := by
  obtain ⟨d, rfl⟩ : ∃ d : Nat, b = a + d := ⟨(b - a).toNat, by omega⟩
  clear h
  induction d with
  | zero => simp
  | succ d ih =>
    have := edg_step (a + d)
    rw [show a + ((d + 1 : Nat) : Int) = a + d + 1 by omega, this]; omega
theorem edg_pos {a : Int} (h0 : 0 ≤ a) : 0 ≤ edg a := by
  have := edg_mono (show (0 : Int) ≤ 0 by omega) h0
  have e : edg 0 = 0 := by decide
  omega
theorem eix_bd {n i j : Int} (hn : n ≤ 17) (hi0 : 0 ≤ i) (hi : i < n) (hj0 : 0 ≤ j) (hj : j < n) (hij : i ≠ j) : 0 ≤ eix i j ∧ eix i j < edg n ∧ eix i j < 136 := by
  have h17 := (edg_bd (show 1 ≤ n by omega) hn).2
  unfold eix
  split
  · have h1 := edg_mono (show 0 ≤ i + 1 by omega) (show i + 1 ≤ n by omega)
    have h2 := edg_step i
    have h3 := edg_pos hi0
    omega
  · have h1 := edg_mono (show 0 ≤ j + 1 by omega) (show j + 1 ≤ n by omega)
    have h2 := edg_step j
    have h3 := edg_pos hj0
    omega
theorem eix_comm {i j : Int} (h : i ≠ j) : eix i j = eix j i := by
  unfold eix; split <;> split <;> omega
theorem mul16 {n : Int} (h1 : 0 ≤ n) (h2 : n ≤ 16) : 0 ≤ n * (n - 1) ∧ n * (n - 1) ≤ 240 := by
  by_cases h : n = 0
  · subst h; decide
  · exact ⟨Int.mul_nonneg h1 (by omega), Int.le_trans (Int.mul_le_mul h2 (show n - 1 ≤ 15 by omega) (by omega) (by omega)) (by omega)⟩
set_option maxRecDepth 100000 in
theorem edge79 (i j : Int) (w : World) (hi0 : 0 ≤ i) (hi : i ≤ 16) (hj0 : 0 ≤ j) (hj : j ≤ 16) :
    Calls Tryd.prog 78 #[.int .i64 i, .int .i64 j] w fun e w' => e = .returned (.int .i64 (eix i j)) ∧ w = w' := by
  obtain ⟨m1, m2⟩ := mul16 hi0 hi
  obtain ⟨m3, m4⟩ := mul16 hj0 hj
  by_cases h : j < i
  · have H := hidd (show eix i j = i * (i - 1) / 2 + j by unfold eix edg; rw [if_pos h])
    go_enter Tryd.func78, Tryd.ntmps78
    go_wp2
    go_ret
    exact ⟨by rw [H.out]; rfl, rfl⟩
  · have H := hidd (show eix i j = j * (j - 1) / 2 + i by unfold eix edg; rw [if_neg h])
    have h' : i ≤ j := by omega
    go_enter Tryd.func78, Tryd.ntmps78
    go_wp2
    go_ret
    exact ⟨by rw [H.out]; rfl, rfl⟩
set_option maxRecDepth 100000 in
theorem edge54 (i j : Int) (w : World) (hij : i ≠ j) (hi0 : 0 ≤ i) (hi : i ≤ 16) (hj0 : 0 ≤ j) (hj : j ≤ 16) :
    Calls Tryd.prog 99 #[.int .i64 i, .int .i64 j] w fun e w' => e = .returned (.int .i64 (eix i j)) ∧ w = w' := by
  obtain ⟨m1, m2⟩ := mul16 hi0 hi
  obtain ⟨m3, m4⟩ := mul16 hj0 hj
  by_cases h : j < i
  · have H := hidd (show eix i j = i * (i - 1) / 2 + j by unfold eix edg; rw [if_pos h])
    go_enter Tryd.func99, Tryd.ntmps99
    go_wp2
    go_ret
    exact ⟨by rw [H.out]; rfl, rfl⟩
  · have H := hidd (show eix i j = j * (j - 1) / 2 + i by unfold eix edg; rw [if_neg h])
    have h' : i < j := by omega
    clear h hij
    go_enter Tryd.func99, Tryd.ntmps99
    go_wp2
    go_ret
    exact ⟨by rw [H.out]; rfl, rfl⟩
/-- The colour at an edge. -/
def colAt (bs : List Nat) (i j : Int) : Int := ((bs.getD (eix i j).toNat 0 : Nat) : Int)
theorem colAt_bd {bs : List Nat} (hb : Bys bs) (i j : Int) : 0 ≤ colAt bs i j ∧ colAt bs i j < 256 := by
  have := hb.lt (eix i j).toNat
  unfold colAt; omega
set_option maxRecDepth 100000 in
theorem at57 (n k : Int) (bs : List Nat) (hb : Bys bs) (m i j : Int) (w : World) (hm : m ≤ 17) (hi0 : 0 ≤ i) (hi : i < m) (hj0 : 0 ≤ j) (hj : j < m) (hij : i ≠ j) :
    Calls Tryd.prog 68 #[.agg (ccells n k bs).toArray, .int .i64 i, .int .i64 j] w fun e w' => e = .returned (.int .i64 (colAt bs i j)) ∧ Below w.heap.size w w' := by
  obtain ⟨h1, h2, h3⟩ := eix_bd hm hi0 hi hj0 hj hij
  obtain ⟨E, hE⟩ := Int.eq_ofNat_of_zero_le h1
  have hE1 : E < 136 := by omega
  obtain ⟨x, hx⟩ : ∃ x, x = bs.getD E 0 := ⟨_, rfl⟩
  have hc : (w.alloc (.cells (ccells n k bs).toArray 28)).cell? ⟨w.heap.size, 2 + E, none⟩ = some (.int .u8 (x : Int)) := (Blk.new _ _ _ _ rfl).cell (by rw [hx]; exact hb.cget n k hE1)
  have hr : colAt bs i j = (x : Int) := by unfold colAt; rw [hE, Int.toNat_natCast, hx]
  have hx2 : x < 256 := by rw [hx]; exact hb.lt E
  have HE := hidd hE
  have HR := hidd hr
  have hi' : i ≤ 16 := by omega
  have hj' : j ≤ 16 := by omega
  clear hE hx hr h1 h2 h3 hij
  go_enter Tryd.func68, Tryd.ntmps68
  go_wp2_with (go_at_call 78; refine (edge79 _ _ _ hi0 hi' hj0 hj').mono ?_; rintro e w' ⟨rfl, rfl⟩; rw [HE.out])
  go_ret
  exact ⟨by rw [HR.out]; rfl, (Below.refl _ _).alloc (Nat.le_refl _) _⟩
set_option maxRecDepth 100000 in
theorem at59 (n k : Int) (bs : List Nat) (hb : Bys bs) (m i j : Int) (w : World) (hm : m ≤ 17) (hi0 : 0 ≤ i) (hi : i < m) (hj0 : 0 ≤ j) (hj : j < m) (hij : i ≠ j) :
    Calls Tryd.prog 96 #[.agg (ccells n k bs).toArray, .int .i64 i, .int .i64 j] w fun e w' => e = .returned (.int .i64 (colAt bs i j)) ∧ Below w.heap.size w w' := by
  obtain ⟨h1, h2, h3⟩ := eix_bd hm hi0 hi hj0 hj hij
  obtain ⟨E, hE⟩ := Int.eq_ofNat_of_zero_le h1
  have hE1 : E < 136 := by omega
  obtain ⟨x, hx⟩ : ∃ x, x = bs.getD E 0 := ⟨_, rfl⟩
  have hc : (w.alloc (.cells (ccells n k bs).toArray 28)).cell? ⟨w.heap.size, 2 + E, none⟩ = some (.int .u8 (x : Int)) := (Blk.new _ _ _ _ rfl).cell (by rw [hx]; exact hb.cget n k hE1)
  have hr : colAt bs i j = (x : Int) := by unfold colAt; rw [hE, Int.toNat_natCast, hx]
  have hx2 : x < 256 := by rw [hx]; exact hb.lt E
  have HE := hidd hE
  have HR := hidd hr
  have hi' : i ≤ 16 := by omega
  have hj' : j ≤ 16 := by omega
  have HJ := hidd hij
  clear hE hx hr h1 h2 h3 hij
  go_enter Tryd.func96, Tryd.ntmps96
  go_wp2_with (go_at_call 99; refine (edge54 _ _ _ HJ.out hi0 hi' hj0 hj').mono ?_; rintro e w' ⟨rfl, rfl⟩; rw [HE.out])
  go_ret
  exact ⟨by rw [HR.out]; rfl, (Below.refl _ _).alloc (Nat.le_refl _) _⟩
end Go.Proofs.YtckffliiidgilaaDoor
/- Tests of numbers, pairs and lists, and the code of what is given. -/
namespace Go.Proofs.YtckffliiidgilaaDoor
open Go Go.RowKit
def inB (n lo hi : Int) : Bool := decide (lo ≤ n) && decide (n ≤ hi)
theorem inB_yes {n lo hi : Int} (h1 : lo ≤ n) (h2 : n ≤ hi) : inB n lo hi = true := by simp [inB, h1, h2]
theorem inB_no {n lo hi : Int} (h : ¬ (lo ≤ n ∧ n ≤ hi)) : inB n lo hi = false := by
  simp only [inB, Bool.and_eq_false_iff, decide_eq_false_iff_not]; omega
theorem inB_bd {n lo hi : Int} (h : inB n lo hi = true) : lo ≤ n ∧ n ≤ hi := by simpa [inB] using h
theorem inB_out {n lo hi : Int} (h : inB n lo hi = false) : ¬ (lo ≤ n ∧ n ≤ hi) := by
  simp only [inB, Bool.and_eq_false_iff, decide_eq_false_iff_not] at h; omega
theorem in49 (n lo hi : Int) (w : World) : Calls Tryd.prog 59 #[.int .i64 n, .int .i64 lo, .int .i64 hi] w fun e w' => e = .returned (.bool (inB n lo hi)) ∧ w = w' := by
  by_cases h1 : lo ≤ n
  · by_cases h2 : n ≤ hi
    · rw [inB_yes h1 h2]; exact in49_yes n lo hi w h1 h2
    · have H := hidd (inB_no (n := n) (lo := lo) (hi := hi) (by omega))
      have hd : decide (n ≤ hi) = false := by simpa using h2
      clear h2
      go_enter Tryd.func59, Tryd.ntmps59
      go_wp2
      go_ret
      exact ⟨by rw [H.out]; rfl, rfl⟩
  · have H := hidd (inB_no (n := n) (lo := lo) (hi := hi) (by omega))
    have hd : decide (lo ≤ n) = false := by simpa using h1
    clear h1
    go_enter Tryd.func59, Tryd.ntmps59
    go_wp2
    go_ret
    exact ⟨by rw [H.out]; rfl, rfl⟩
/-- impl.isBelow -/
def belowB (n m : Int) : Bool := inB n 0 (m - 1)
theorem below61 (n m : Int) (w : World) : Calls Tryd.prog 98 #[.int .i64 n, .int .i64 m] w fun e w' => e = .returned (.bool (belowB n m)) ∧ w = w' := by
  by_cases h1 : 0 ≤ n
  · by_cases h2 : n < m
    · have H := hidd (show belowB n m = true from inB_yes h1 (by omega))
      go_enter Tryd.func98, Tryd.ntmps98
      go_wp2
      go_ret
      exact ⟨by rw [H.out]; rfl, rfl⟩
    · have H := hidd (show belowB n m = false from inB_no (by omega))
      have hd : decide (n < m) = false := by simpa using h2
      clear h2
      go_enter Tryd.func98, Tryd.ntmps98
      go_wp2
      go_ret
      exact ⟨by rw [H.out]; rfl, rfl⟩
  · have H := hidd (show belowB n m = false from inB_no (by omega))
    have hd : decide (0 ≤ n) = false := by simpa using h1
    clear h1
    go_enter Tryd.func98, Tryd.ntmps98
    go_wp2
    go_ret
    exact ⟨by rw [H.out]; rfl, rfl⟩
/-- impl.arePointPair -/
def pairB (i j n : Int) : Bool := belowB i n && belowB j n && decide (i ≠ j)
theorem pairB_yes {i j n : Int} (h1 : belowB i n = true) (h2 : belowB j n = true) (h3 : i ≠ j) : pairB i j n = true := by simp [pairB, h1, h2, h3]
theorem pairB_no1 {i j n : Int} (h1 : belowB i n = false) : pairB i j n = false := by simp [pairB, h1]
theorem pairB_no2 {i j n : Int} (h1 : belowB j n = false) : pairB i j n = false := by simp [pairB, h1]
theorem pairB_no3 {i n : Int} : pairB i i n = false := by simp [pairB]
theorem pairB_bd {i j n : Int} (h : pairB i j n = true) : 0 ≤ i ∧ i < n ∧ 0 ≤ j ∧ j < n ∧ i ≠ j := by
  simp only [pairB, Bool.and_eq_true, decide_eq_true_eq] at h
  obtain ⟨⟨h1, h2⟩, h3⟩ := h
  have := inB_bd h1; have := inB_bd h2
  exact ⟨by omega, by omega, by omega, by omega, h3⟩
/-- The elements of a slice of numbers lie where it leads. -/
def SlI (w : World) (a : Option Addr) (zs : List Int) : Prop := zs = [] ∨ ∃ b off, a = some ⟨b, off, none⟩ ∧ ∀ j, j < zs.length → w.cell? ⟨b, off + j, none⟩ = some (.int .i64 (zs.getD j 0))
theorem SlI.below {w w' : World} {B : Nat} {a : Option Addr} {zs : List Int} (h : SlI w a zs) (hb : Below B w w') (hB : w.heap.size ≤ B) : SlI w' a zs := by
  rcases h with h | ⟨b, off, ha, hc⟩
  · exact .inl h
  · refine .inr ⟨b, off, ha, fun j hj => ?_⟩
    have hcj := hc j hj
    have hlt := block_lt_of_cell hcj
    rw [hb.cell (p := ⟨b, off + j, none⟩) (by show b < B; exact Nat.lt_of_lt_of_le hlt hB)]; exact hcj
/-- Are all numbers of a list from 0 to k - 1? -/
def allB (zs : List Int) (k : Int) : Bool := zs.all fun z => belowB z k
theorem allB_yes {zs : List Int} {k : Int} (h : ∀ j, j < zs.length → belowB (zs.getD j 0) k = true) : allB zs k = true := by
  unfold allB
  rw [List.all_eq_true]
  intro z hz
  obtain ⟨j, hj, rfl⟩ := List.mem_iff_getElem.1 hz
  have := h j hj
  simpa [List.getD, hj] using this
theorem allB_no {zs : List Int} {k : Int} {j : Nat} (hj : j < zs.length) (h : belowB (zs.getD j 0) k = false) : allB zs k = false := by
  unfold allB
  rw [List.all_eq_false]
  refine ⟨zs[j], List.getElem_mem hj, ?_⟩
  have : zs.getD j 0 = zs[j] := by simp [List.getD, hj]
  rw [this] at h; rw [h]; simp
theorem allB_get {zs : List Int} {k : Int} (h : allB zs k = true) {j : Nat} (hj : j < zs.length) : 0 ≤ zs.getD j 0 ∧ zs.getD j 0 < k := by
  unfold allB at h
  rw [List.all_eq_true] at h
  have h1 := inB_bd (h zs[j] (List.getElem_mem hj))
  have : zs.getD j 0 = zs[j] := by simp [List.getD, hj]
  rw [this]; omega
set_option maxRecDepth 100000 in
set_option maxHeartbeats 400000 in
theorem all50 (zs : List Int) (a : Option Addr) (cap : Nat) (k : Int) (w : World) (hs : SlI w a zs) (hl : zs.length ≤ 9223372036854775807) (hk1 : 0 ≤ k) (hk2 : k ≤ 9223372036854775807) :
    Calls Tryd.prog 43 #[.slice a zs.length cap, .int .i64 k] w fun e w' => e = .returned (.bool (allB zs k)) ∧ w = w' := by
  go_enter Tryd.func43, Tryd.ntmps43
  go_wp2_with fail
  go_loop [5] (fun i => ∃ j : Nat, j ≤ zs.length ∧ i = .int .i64 j ∧ ∀ m, m < j → belowB (zs.getD m 0) k = true) (fun i => zs.length - (intOf i).toNat)
  case atStart => exact ⟨0, by omega, rfl, fun m hm => absurd hm (by omega)⟩
  case round =>
    obtain ⟨j, hj, rfl, hall⟩ := hrel
    have HA := hidd hall
    clear hall
    by_cases hlt : j < zs.length
    · rcases hs with hs | ⟨b, off, rfl, hc⟩
      · subst hs; simp at hlt
      · have hcj := hc j hlt
        obtain ⟨z, hz⟩ : ∃ z, z = zs.getD j 0 := ⟨_, rfl⟩
        rw [← hz] at hcj
        have HZ := hidd hz
        have HC := hidd hc
        clear hz hc
        cases hb : belowB z k with
        | true =>
          have HB := hidd (show inB z 0 (k - 1) = true from hb)
          clear hb
          go_wp2_with (go_at_call 59; refine (in49 _ _ _ _).mono ?_; rintro e w' ⟨rfl, rfl⟩; rw [HB.out])
          go_round
          case rel => exact ⟨j + 1, by omega, by go_num, fun m hm => by
            by_cases e : m = j
            · subst e; rw [← HZ.out]; exact HB.out
            · exact HA.out m (by omega)⟩
          case measure => simp [intOf]; omega
        | false =>
          have HB := hidd (show inB z 0 (k - 1) = false from hb)
          have H := hidd (allB_no hlt (by rw [← HZ.out]; exact hb))
          clear hb
          go_wp2_with (go_at_call 59; refine (in49 _ _ _ _).mono ?_; rintro e w' ⟨rfl, rfl⟩; rw [HB.out])
          go_ret
          exact ⟨by rw [H.out]; rfl, rfl⟩
    · have hje : j = zs.length := by omega
      subst hje
      have H := hidd (allB_yes HA.out)
      go_wp2_with fail
      go_ret
      exact ⟨by rw [H.out]; rfl, rfl⟩
end Go.Proofs.YtckffliiidgilaaDoor
/- The code of a colouring, a colour and points. -/
namespace Go.Proofs.YtckffliiidgilaaDoor
open Go Go.RowKit
theorem size_c26 (n k : Int) {bs : List Nat} (hb : Bys bs) : (Tryd.prog.info? 28).map (·.size) = some (ccells n k bs).toArray.size := by rw [size26]; simp [ccells_len, hb.len]
theorem size_c24 (n k : Int) {bs : List Nat} (hb : Bys bs) : (Tryd.prog.info? 24).map (·.size) = some (ccells n k bs).toArray.size := by rw [size24]; simp [ccells_len, hb.len]
theorem isCol_bd {n k : Int} {bs : List Nat} (h : isCol n k bs = true) : 1 ≤ n ∧ n ≤ 17 ∧ 1 ≤ k ∧ k ≤ 4 := shape_bd (isCol_good h).1
def given (n k : Int) (bs : List Nat) (c : Int) (zs : List Int) : Int := if isCol n k bs then (if belowB c k && allB zs n then 0 else 2) else 1
theorem given_1 {n k : Int} {bs : List Nat} {c : Int} {zs : List Int} (h : isCol n k bs = false) : given n k bs c zs = 1 := by simp [given, h]
theorem given_2 {n k : Int} {bs : List Nat} {c : Int} {zs : List Int} (h : isCol n k bs = true) (h2 : (belowB c k && allB zs n) = false) : given n k bs c zs = 2 := by
  unfold given; rw [if_pos h, h2]; rfl
theorem given_0 {n k : Int} {bs : List Nat} {c : Int} {zs : List Int} (h : isCol n k bs = true) (h1 : belowB c k = true) (h2 : allB zs n = true) : given n k bs c zs = 0 := by simp [given, h, h1, h2]
end Go.Proofs.YtckffliiidgilaaDoor
/- ColourOf: the program and its model. -/
namespace Go.Proofs.YtckffliiidgilaaDoor
open Go Go.RowKit
/-- The code of an edge that is asked for. -/
def codeE (n k : Int) (bs : List Nat) (i j : Int) : Int := if isCol n k bs then (if pairB i j n then 0 else 2) else 1
def colE (n k : Int) (bs : List Nat) (i j : Int) : Int := if isCol n k bs && pairB i j n then colAt bs i j else 0
theorem codeE_1 {n k : Int} {bs : List Nat} {i j : Int} (h : isCol n k bs = false) : codeE n k bs i j = 1 ∧ colE n k bs i j = 0 := by simp [codeE, colE, h]
theorem codeE_2 {n k : Int} {bs : List Nat} {i j : Int} (h : isCol n k bs = true) (h2 : pairB i j n = false) : codeE n k bs i j = 2 ∧ colE n k bs i j = 0 := by simp [codeE, colE, h, h2]
theorem codeE_0 {n k : Int} {bs : List Nat} {i j : Int} (h : isCol n k bs = true) (h2 : pairB i j n = true) : codeE n k bs i j = 0 ∧ colE n k bs i j = colAt bs i j := by simp [codeE, colE, h, h2]
theorem all2 (i j n : Int) : allB [i, j] n = (belowB i n && belowB j n) := by simp [allB]
theorem pair_of {i j n : Int} (h : allB [i, j] n = true) (h2 : i ≠ j) : pairB i j n = true := by
  rw [all2, Bool.and_eq_true] at h; exact pairB_yes h.1 h.2 h2
theorem pair_not {i j n : Int} (h : allB [i, j] n = false) : pairB i j n = false := by
  rw [all2, Bool.and_eq_false_iff] at h
  rcases h with h | h
  · exact pairB_no1 h
  · exact pairB_no2 h
theorem below0 {k : Int} (h : 1 ≤ k) : belowB 0 k = true := inB_yes (by omega) (by omega)
theorem sl2 (w : World) (i j : Int) (t : TypeId) (b : Nat) (hb : b = w.heap.size) : SlI (w.alloc (.cells #[.int .i64 i, .int .i64 j] t)) (some ⟨b, 0, none⟩) [i, j] := by
  refine .inr ⟨_, _, rfl, fun m hm => ?_⟩
  have hB := Blk.new w #[.int .i64 i, .int .i64 j] t b hb
  match m, hm with
  | 0, _ => exact hB.cell rfl
  | 1, _ => exact hB.cell rfl
end Go.Proofs.YtckffliiidgilaaDoor
/- The laws' comparison of two colourings, field by field. -/
namespace Go.Proofs.YtckffliiidgilaaDoor
set_option linter.unusedVariables false
set_option linter.unusedSimpArgs false
open Go Go.RowKit
def Rel55 (cs bs : List Nat) (w : World) (k : Nat) (wr : World) : Prop := Blk wr w.heap.size (bcells cs).toArray 22 ∧ Blk wr (w.heap.size + 1) (bcells bs).toArray 22 ∧ Below w.heap.size w wr
set_option maxRecDepth 100000 in
set_option maxHeartbeats 400000 in
theorem eqBytes_same (bs : List Nat) (hb : Bys bs) (w : World) :
    Calls Tryd.prog 66 #[.agg (bcells bs).toArray, .agg (bcells bs).toArray] w fun e w' => e = .returned (.bool true) ∧ Below w.heap.size w w' := by
  go_enter Tryd.func66, Tryd.ntmps66
  go_wp2
  go_loopw [5] (fun i wr => ∃ k : Nat, k ≤ 136 ∧ i = .int .i64 k ∧ Rel55 bs bs w k wr) (fun i _ => 136 - (intOf i).toNat)
  case atStart =>
    exact ⟨0, by omega, rfl, (Blk.new _ _ _ _ rfl).alloc _, Blk.new _ _ _ _ (by simp), ((Below.refl _ _).alloc (Nat.le_refl _) _).alloc (by simp) _⟩
  case round =>
    obtain ⟨k, hk, rfl, HR⟩ := hrel
    by_cases hlt : k < 136
    · have hg := hb.get hlt
      obtain ⟨x, hx⟩ : ∃ x, x = bs.getD k 0 := ⟨_, rfl⟩
      rw [← hx] at hg
      have hc0 : wr.cell? ⟨w.heap.size, k, none⟩ = some (.int .u8 (x : Int)) := HR.1.cell (by simpa using hg)
      have hc1 : wr.cell? ⟨w.heap.size + 1, k, none⟩ = some (.int .u8 (x : Int)) := HR.2.1.cell (by simpa using hg)
      have hne : ((x : Int) != (x : Int)) = false := by simp
      have HRR := hidd HR
      clear hx hg HR
      go_wp2
      go_quiet (fail)
      go_wp2
      go_roundw
      case rel => exact ⟨k + 1, by omega, by go_num, HRR.out.1.drewN _, HRR.out.2.1.drewN _, below_drewN HRR.out.2.2 _⟩
      case measure => simp [intOf]; omega
    · have hk6 : k = 136 := by omega
      subst hk6
      go_wp2
      go_ret
      exact ⟨rfl, HR.2.2⟩
set_option maxRecDepth 100000 in
set_option maxHeartbeats 400000 in
theorem eqCol_same (n k : Int) (bs : List Nat) (hb : Bys bs) (w : World) :
    Calls Tryd.prog 37 #[.agg (ccells n k bs).toArray, .agg (ccells n k bs).toArray] w fun e w' => e = .returned (.bool true) ∧ Below w.heap.size w w' := by
  have HS := hidd (show (Tryd.prog.info? 22).map (·.size) = some (bcells bs).length by rw [size22]; simp [bcells_len, hb.len])
  have HR := hidd (show ∀ j v, (bcells bs)[j]? = some v → (ccells n k bs).toArray[2 + j]? = some v by
    intro j v hv; rw [show 2 + j = j + 1 + 1 by omega]; simpa [ccells] using hv)
  obtain ⟨C, hC⟩ : ∃ C, C = (ccells n k bs).toArray := ⟨_, rfl⟩
  rw [← hC] at HR
  have hC0 : C[0]? = some (.int .i64 n) := by rw [hC]; rfl
  have hC1 : C[1]? = some (.int .i64 k) := by rw [hC]; rfl
  have hn : (n != n) = false := by simp
  have hk : (k != k) = false := by simp
  rw [← hC]
  clear hC
  have W0 : ((w.alloc (.cells C 28)).alloc (.cells C 28)).cell? ⟨w.heap.size, 0, none⟩ = some (.int .i64 n) := ((Blk.new _ _ _ _ rfl).alloc _).cell hC0
  have W1 : ((w.alloc (.cells C 28)).alloc (.cells C 28)).cell? ⟨w.heap.size, 1, none⟩ = some (.int .i64 k) := ((Blk.new _ _ _ _ rfl).alloc _).cell hC1
  have W2 : ((w.alloc (.cells C 28)).alloc (.cells C 28)).cell? ⟨w.heap.size + 1, 0, none⟩ = some (.int .i64 n) := (Blk.new _ _ _ _ (by simp)).cell hC0
  have W3 : ((w.alloc (.cells C 28)).alloc (.cells C 28)).cell? ⟨w.heap.size + 1, 1, none⟩ = some (.int .i64 k) := (Blk.new _ _ _ _ (by simp)).cell hC1
  go_enter Tryd.func37, Tryd.ntmps37
  go_wp2_with (first
    | (refine wpList_load_mid rfl 22 (.tmp 15) rfl w.heap.size 2 rfl (bcells bs) _ (((Blk.new w C 28 _ rfl).alloc _).range 2 _ HR.out) Tryd.underlying22 rfl HS.out ?_)
    | (refine wpList_load_mid rfl 22 (.tmp 17) rfl (w.heap.size + 1) 2 rfl (bcells bs) _ ((Blk.new (w.alloc (.cells C 28)) C 28 _ (by simp)).range 2 _ HR.out) Tryd.underlying22 rfl HS.out ?_))
  refine (eqBytes_same bs hb _).mono ?_
  rintro e w1 ⟨rfl, hb1⟩
  have G := hidd ((((Below.refl _ _).alloc (Nat.le_refl _) _).alloc (by simp) _).trans (hb1.mono (B' := w.heap.size) (by simp; omega)))
  clear hb1
  go_wp2
  go_ret
  exact ⟨rfl, G.out⟩
end Go.Proofs.YtckffliiidgilaaDoor
/- Results that hold a colouring. -/
namespace Go.Proofs.YtckffliiidgilaaDoor
set_option linter.unusedVariables false
set_option linter.unusedSimpArgs false
open Go Go.RowKit
theorem built26 : Tryd.prog.built 28 [] = some (ccells 0 0 zbl).toArray := by kernel_rfl
theorem wpList_zero26 {ops : Array Oper} {rest : List Oper} {o : Oper} {a : Act} {w : World} {Q : Exit → Act → World → Prop} (hg : o.guard = none) (ho : o.op = .build 28 #[])
    (h : wpList Tryd.prog ops Q rest (a.put o.dst (.agg (ccells 0 0 zbl).toArray)) w) : wpList Tryd.prog ops Q (o :: rest) a w := by
  obtain ⟨Z, hZ⟩ : ∃ Z, Z = (ccells 0 0 zbl).toArray := ⟨_, rfl⟩
  have hb : Tryd.prog.built 28 [] = some Z := by rw [hZ]; exact built26
  rw [← hZ] at h
  clear hZ
  have e : ((#[] : Array (Nat × Operand)).map fun (i, x) => (i, a.eval x)).toList = [] := by simp
  refine wpList_build hg 28 #[] ho ?_ ?_
  · rw [e, hb]; rfl
  · rw [e, hb]; exact h
theorem results_row_tmp {P : Program} {fn : Func} {p u : Tmp} {ty : TypeId} (h : fn.results = #[.cell p ty, .tmp u]) (tmps : Array Value) (w : World) (g : Nat) (t : TypeId) (cs : Array Value) (d : TypeDesc)
    (hp : tmps.getD p undef = .pointer (some ⟨g, 0, none⟩)) (hg : Blk w g cs t)
    (hu : P.underlying ty = some d) (hd : (match d with | .struct _ | .array _ _ => true | _ => false) = true) (hi : (P.info? ty).map (·.size) = some cs.size) :
    (results fn tmps).run P w = .ok (.tuple #[.agg cs, tmps.getD u undef]) w := by
  rw [results_cell_tmp h, hp]
  simp [asAddr, Result.andThen, run_loadVar_row w g t ty cs (0, 0) d hg hu hd hi]
theorem size_z26 : (Tryd.prog.info? 28).map (·.size) = some (ccells 0 0 zbl).toArray.size := size_c26 0 0 zbl_bys
theorem size_cc (n k m l : Int) {bs cs : List Nat} (hb : Bys bs) (hc : Bys cs) : (ccells n k bs).toArray.size = (ccells m l cs).toArray.size := by simp [ccells_len, hb.len, hc.len]
/-- A number below 256 as a byte. -/
theorem u8_in {c : Int} (h0 : 0 ≤ c) (h1 : c < 256) : IntKind.u8.wrap c = c := by
  simp [IntKind.wrap, IntKind.bits, IntKind.signed]; omega
/-- The load of a whole row behind a guard that lets it by. -/
theorem wpList_load_if {P : Program} {ops : Array Oper} {rest : List Oper} {o : Oper} {a : Act} {w : World} {Q : Exit → Act → World → Prop} (hw : Region.wanted o (yielded ops a.tmps) = true) (ty : TypeId) (x : Operand) (ho : o.op = .load ty x)
    (g : Nat) (hx : a.eval x = .pointer (some ⟨g, 0, none⟩)) (t : TypeId) (cs : Array Value) (d : TypeDesc) (hg : Blk w g cs t)
    (hu : P.underlying ty = some d) (hd : (match d with | .struct _ | .array _ _ => true | _ => false) = true) (hi : (P.info? ty).map (·.size) = some cs.size)
    (h : wpList P ops Q rest (a.put o.dst (.agg cs)) w) : wpList P ops Q (o :: rest) a w := by
  simp only [wpList, hw, if_true]
  exact .inl (wp_load_row ty x ho g hx t cs (0, 0) d hg hu hd hi h)
end Go.Proofs.YtckffliiidgilaaDoor
/- ChangeEdge: the program and its model. -/
namespace Go.Proofs.YtckffliiidgilaaDoor
set_option linter.unusedVariables false
set_option linter.unusedSimpArgs false
open Go Go.RowKit
def setAt (bs : List Nat) (i j c : Int) : List Nat := bs.set (eix i j).toNat c.toNat
theorem setAt_bys {bs : List Nat} (hb : Bys bs) (i j : Int) {c : Int} (h0 : 0 ≤ c) (h1 : c < 256) : Bys (setAt bs i j c) := hb.set _ _ (by omega)
def codeC (n k : Int) (bs : List Nat) (i j c : Int) : Int := if isCol n k bs then (if pairB i j n && belowB c k then 0 else 2) else 1
def chN (n k : Int) (bs : List Nat) (i j c : Int) : Int := if codeC n k bs i j c = 0 then n else 0
def chK (n k : Int) (bs : List Nat) (i j c : Int) : Int := if codeC n k bs i j c = 0 then k else 0
def chB (n k : Int) (bs : List Nat) (i j c : Int) : List Nat := if codeC n k bs i j c = 0 then setAt bs i j c else zbl
/-- What ChangeEdge returns. -/
def chOut (n k : Int) (bs : List Nat) (i j c : Int) : Value := .tuple #[.agg (ccells (chN n k bs i j c) (chK n k bs i j c) (chB n k bs i j c)).toArray, .int .i64 (codeC n k bs i j c)]
theorem chOut_bad {n k : Int} {bs : List Nat} {i j c m : Int} (h : codeC n k bs i j c = m) (hm : m ≠ 0) : chOut n k bs i j c = .tuple #[.agg (ccells 0 0 zbl).toArray, .int .i64 m] := by
  simp [chOut, chN, chK, chB, h, hm]
theorem chOut_good {n k : Int} {bs : List Nat} {i j c : Int} (h : codeC n k bs i j c = 0) : chOut n k bs i j c = .tuple #[.agg (ccells n k (setAt bs i j c)).toArray, .int .i64 0] := by
  simp [chOut, chN, chK, chB, h]
theorem codeC_1 {n k : Int} {bs : List Nat} {i j c : Int} (h : isCol n k bs = false) : codeC n k bs i j c = 1 := by simp [codeC, h]
theorem codeC_2 {n k : Int} {bs : List Nat} {i j c : Int} (h : isCol n k bs = true) (h2 : (pairB i j n && belowB c k) = false) : codeC n k bs i j c = 2 := by
  unfold codeC; rw [if_pos h, h2]; rfl
theorem codeC_0 {n k : Int} {bs : List Nat} {i j c : Int} (h : isCol n k bs = true) (h1 : pairB i j n = true) (h2 : belowB c k = true) : codeC n k bs i j c = 0 := by simp [codeC, h, h1, h2]
theorem codeC_cases (n k : Int) (bs : List Nat) (i j c : Int) : codeC n k bs i j c = 0 ∧ pairB i j n = true ∧ belowB c k = true ∧ isCol n k bs = true ∨ codeC n k bs i j c ≠ 0 := by
  unfold codeC
  cases h : isCol n k bs <;> cases h1 : pairB i j n <;> cases h2 : belowB c k <;> simp
theorem chB_bys {n k : Int} {bs : List Nat} (hb : Bys bs) (i j c : Int) : Bys (chB n k bs i j c) := by
  unfold chB
  rcases codeC_cases n k bs i j c with ⟨h, _, h2, h3⟩ | h
  · rw [if_pos h]
    have := inB_bd h2
    have := isCol_bd h3
    exact setAt_bys hb _ _ (by omega) (by omega)
  · rw [if_neg h]; exact zbl_bys
/-- How a function ends that returns a colouring and a code: the result's row and the code's slot. -/
theorem ret_col {fn : Func} {p u : Tmp} (h : fn.results = #[.cell p 28, .tmp u]) {tmps : Array Value} {w : World} {R : Ending → World → Prop} {g : Nat} {t : TypeId} {n k : Int} {bs : List Nat} (hb : Bys bs) {d : List Deferred}
    (hp : tmps.getD p undef = .pointer (some ⟨g, 0, none⟩)) (hg : Blk w g (ccells n k bs).toArray t) (hd : d = []) {v : Value} (hv : v = .tuple #[.agg (ccells n k bs).toArray, tmps.getD u undef]) (hR : R (.returned v) w) :
    bodyPost Tryd.prog fn R .ret ⟨tmps, d⟩ w := by
  subst hv
  exact bodyPost_ret (results_row_tmp h tmps w g t _ _ hp hg Tryd.underlying28 rfl (size_c26 n k hb)) hd hR
theorem after3 {w w1 : World} {C Z : Array Value} {t : TypeId} {o : Obj} (hb1 : Below (((w.alloc (.cells C t)).alloc (.cells Z 28)).alloc o).heap.size (((w.alloc (.cells C t)).alloc (.cells Z 28)).alloc o) w1) :
    Blk w1 w.heap.size C t ∧ Blk w1 (w.heap.size + 1) Z 28 ∧ Below w.heap.size w w1 :=
  ⟨(((Blk.new w C t _ rfl).alloc _).alloc _).below hb1 (by simp; omega), ((Blk.new _ Z 28 _ (by simp)).alloc _).below hb1 (by simp),
    ((((Below.refl _ _).alloc (Nat.le_refl _) _).alloc (by simp) _).alloc (by simp; omega) _).trans (hb1.mono (by simp; omega))⟩
theorem after2 {w w1 : World} {C Z : Array Value} {t : TypeId} (hb1 : Below ((w.alloc (.cells C t)).alloc (.cells Z 28)).heap.size ((w.alloc (.cells C t)).alloc (.cells Z 28)) w1) :
    Blk w1 w.heap.size C t ∧ Blk w1 (w.heap.size + 1) Z 28 ∧ Below w.heap.size w w1 :=
  ⟨((Blk.new w C t _ rfl).alloc _).below hb1 (by simp; omega), (Blk.new _ Z 28 _ (by simp)).below hb1 (by simp),
    (((Below.refl _ _).alloc (Nat.le_refl _) _).alloc (by simp) _).trans (hb1.mono (by simp; omega))⟩
end Go.Proofs.YtckffliiidgilaaDoor
/- Lists of numbers: the laws' copies and comparisons, and the program's test of a list. -/
namespace Go.Proofs.YtckffliiidgilaaDoor
set_option linter.unusedVariables false
set_option linter.unusedSimpArgs false
open Go Go.RowKit
def icells (zs : List Int) : List Value := zs.map (Value.int .i64)
theorem icells_len (zs : List Int) : (icells zs).length = zs.length := by simp [icells]
theorem icells_get {zs : List Int} {j : Nat} (h : j < zs.length) : (icells zs).toArray[j]? = some (.int .i64 (zs.getD j 0)) := by simp [icells, List.getD, h]
theorem sl_of_blk {w : World} {b : Nat} {zs : List Int} {t : TypeId} (h : Blk w b (icells zs).toArray t) : SlI w (some ⟨b, 0, none⟩) zs :=
  .inr ⟨b, 0, rfl, fun j hj => by rw [Nat.zero_add]; exact h.cell (icells_get hj)⟩
def zrow (n : Nat) : Array Value := madeCells #[.int .i64 0] n
theorem zrow_size (n : Nat) : (zrow n).size = n := size_madeCells _ _
theorem info2 : (Tryd.prog.info? 2).map (fun i => (i.zero, i.size, i.bytes)) = some (some (.int .i64 0), 1, 8) := by kernel_rfl
theorem make29 (n : Nat) (h : n ≤ 1048576) (w : World) : (Instr.makeSlice 25 (.int .i64 n) (.int .i64 n)).run Tryd.prog w = .ok (.slice (some ⟨w.heap.size, 0, none⟩) n n) (w.alloc (.cells (zrow n) 2)) := by
  obtain ⟨i, hi, hz0, hz1, hz2⟩ := info_parts info2
  have := run_make (P := Tryd.prog) w 25 2 i (.int .i64 0) Tryd.underlying25 hi hz0 .i64 .i64 n n (by omega) (by omega) (by rw [hz2]; omega) (by omega)
  rw [this, hz1]
  simp [zrow, Value.cells]
/-- Cells that are the numbers up to k. -/
def Cin (zs : List Int) (k : Nat) (C : Array Value) : Prop := C.size = zs.length ∧ ∀ j, j < k → C[j]? = (icells zs)[j]?
theorem Cin.step {zs : List Int} {k : Nat} {C : Array Value} (h : Cin zs k C) (hk : k < zs.length) : Cin zs (k + 1) (C.setIfInBounds k (.int .i64 (zs.getD k 0))) := by
  refine ⟨by simp [h.1], fun j hj => ?_⟩
  rw [Array.getElem?_setIfInBounds]
  by_cases e : k = j
  · subst e; rw [if_pos rfl, if_pos (by rw [h.1]; exact hk)]
    have := icells_get hk
    simpa using this.symm
  · rw [if_neg e]; exact h.2 j (by omega)
theorem Cin.done {zs : List Int} {C : Array Value} (h : Cin zs zs.length C) : C = (icells zs).toArray := by
  apply Array.ext_getElem?
  intro j
  by_cases hj : j < zs.length
  · rw [h.2 j hj]; simp
  · rw [Array.getElem?_eq_none (by rw [h.1]; omega), Array.getElem?_eq_none (by simp [icells_len]; omega)]
def Rel19 (zs : List Int) (a : Option Addr) (w : World) (k : Nat) (C : Array Value) (wr : World) : Prop := SlI wr a zs ∧ Blk wr w.heap.size C 2 ∧ Cin zs k C ∧ Below w.heap.size w wr
theorem SlI.setOwn {w wr : World} {a : Option Addr} {zs : List Int} (h : SlI w a zs) (hb : Below w.heap.size w wr) : SlI wr a zs := h.below hb (Nat.le_refl _)
set_option maxRecDepth 100000 in
set_option maxHeartbeats 400000 in
theorem copy19 (zs : List Int) (a : Option Addr) (cap : Nat) (w : World) (hs : SlI w a zs) (hl : zs.length ≤ 1048576) :
    Calls Tryd.prog 15 #[.slice a zs.length cap] w fun e w' => e = .returned (.slice (some ⟨w.heap.size, 0, none⟩) zs.length zs.length) ∧ Blk w' w.heap.size (icells zs).toArray 2 ∧ Below w.heap.size w w' := by
  have hmk := make29 zs.length hl
  go_enter Tryd.func15, Tryd.ntmps15
  go_wp2_with fail
  go_loopw [4] (fun i wr => ∃ k : Nat, k ≤ zs.length ∧ i = .int .i64 k ∧ ∃ C, Rel19 zs a w k C wr) (fun i _ => zs.length - (intOf i).toNat)
  case atStart =>
    have hb : Below w.heap.size w (w.alloc (.cells (zrow zs.length) 2)) := (Below.refl _ _).alloc (Nat.le_refl _) _
    exact ⟨0, by omega, rfl, _, hs.below hb (Nat.le_refl _), Blk.new _ _ _ _ rfl, ⟨zrow_size _, fun j hj => absurd hj (by omega)⟩, hb⟩
  case round =>
    obtain ⟨k, hk, rfl, C, HR⟩ := hrel
    by_cases hlt : k < zs.length
    · rcases HR.1 with hz | ⟨b, off, ha, hc⟩
      · subst hz; simp at hlt
      · subst ha
        have hck := hc k hlt
        obtain ⟨z, hz⟩ : ∃ z, z = zs.getD k 0 := ⟨_, rfl⟩
        rw [← hz] at hck
        obtain ⟨old, ho⟩ : ∃ old, wr.cell? ⟨w.heap.size, k, none⟩ = some old := ⟨_, HR.2.1.cell (Array.getElem?_eq_getElem (by rw [HR.2.2.1.1]; exact hlt))⟩
        have hf := HR.2.1.fro k
        have hst := HR.2.2.1.step hlt
        rw [← hz] at hst
        have hbe := HR.2.2.2.setCell (p := ⟨w.heap.size, k, none⟩) (Nat.le_refl _) (.int .i64 z)
        have K := hidd (show Rel19 zs (some ⟨b, off, none⟩) w (k + 1) _ _ from ⟨hs.below hbe (Nat.le_refl _), HR.2.1.same k (.int .i64 z), hst, hbe⟩)
        have HS := hidd hs
        clear hz hc hst hbe HR hs
        go_wp2_with fail
        go_roundw
        case rel => exact ⟨k + 1, by omega, by go_num, _, K.out⟩
        case measure => simp [intOf]; omega
    · have hke : k = zs.length := by omega
      subst hke
      have hC := HR.2.2.1.done
      subst hC
      go_wp2_with fail
      go_ret
      exact ⟨rfl, HR.2.1, HR.2.2.2⟩
def Rel22 (zs : List Int) (a b : Option Addr) (w : World) (wr : World) : Prop := SlI wr a zs ∧ SlI wr b zs ∧ Below w.heap.size w wr
set_option maxRecDepth 100000 in
set_option maxHeartbeats 400000 in
theorem eq22 (zs : List Int) (a b : Option Addr) (cap cap' : Nat) (w : World) (hs : SlI w a zs) (ht : SlI w b zs) (hl : zs.length ≤ 1048576) :
    Calls Tryd.prog 17 #[.slice a zs.length cap, .slice b zs.length cap'] w fun e w' => e = .returned (.bool true) ∧ Below w.heap.size w w' := by
  have hne : ((zs.length : Int) != (zs.length : Int)) = false := by simp
  go_enter Tryd.func17, Tryd.ntmps17
  go_wp2_with fail
  go_loopw [5] (fun i wr => ∃ k : Nat, k ≤ zs.length ∧ i = .int .i64 k ∧ Rel22 zs a b w wr) (fun i _ => zs.length - (intOf i).toNat)
  case atStart => exact ⟨0, by omega, rfl, hs, ht, Below.refl _ _⟩
  case round =>
    obtain ⟨k, hk, rfl, HR⟩ := hrel
    by_cases hlt : k < zs.length
    · rcases HR.1 with hz | ⟨x, o, ha, hc⟩
      · subst hz; simp at hlt
      · rcases HR.2.1 with hz | ⟨y, p, hb, hd⟩
        · subst hz; simp at hlt
        · subst ha
          subst hb
          have hck := hc k hlt
          have hdk := hd k hlt
          obtain ⟨z, hz⟩ : ∃ z, z = zs.getD k 0 := ⟨_, rfl⟩
          rw [← hz] at hck hdk
          have hzz : (z != z) = false := by simp
          have K := hidd HR
          clear hz hc hd HR hs ht
          go_wp2_with fail
          go_quiet (fail)
          go_wp2
          go_roundw
          case rel => exact ⟨k + 1, by omega, by go_num, K.out.1.below (below_drewN (Below.refl _ _) _) (Nat.le_refl _), K.out.2.1.below (below_drewN (Below.refl _ _) _) (Nat.le_refl _), below_drewN K.out.2.2 _⟩
          case measure => simp [intOf]; omega
    · have hke : k = zs.length := by omega
      subst hke
      go_wp2_with fail
      go_ret
      exact ⟨rfl, HR.2.2⟩
set_option maxRecDepth 100000 in
set_option maxHeartbeats 400000 in
theorem all51 (zs : List Int) (a : Option Addr) (cap : Nat) (k : Int) (w : World) (hs : SlI w a zs) (hl : zs.length ≤ 9223372036854775807) :
    Calls Tryd.prog 79 #[.slice a zs.length cap, .int .i64 k] w fun e w' => e = .returned (.bool (allB zs k)) ∧ w = w' := by
  go_enter Tryd.func79, Tryd.ntmps79
  go_wp2_with fail
  go_loop [9] (fun i => ∃ j : Nat, j ≤ zs.length ∧ i = .int .i64 j ∧ ∀ m, m < j → belowB (zs.getD m 0) k = true) (fun i => zs.length - (intOf i).toNat)
  case atStart => exact ⟨0, by omega, rfl, fun m hm => absurd hm (by omega)⟩
  case round =>
    obtain ⟨j, hj, rfl, hall⟩ := hrel
    have HA := hidd hall
    clear hall
    by_cases hlt : j < zs.length
    · rcases hs with hs | ⟨b, off, rfl, hc⟩
      · subst hs; simp at hlt
      · have hcj := hc j hlt
        obtain ⟨z, hz⟩ : ∃ z, z = zs.getD j 0 := ⟨_, rfl⟩
        rw [← hz] at hcj
        have HZ := hidd hz
        have HC := hidd hc
        clear hz hc
        cases hb : belowB z k with
        | true =>
          have HB := hidd hb
          clear hb
          go_wp2_with (go_at_call 98; refine (below61 _ _ _).mono ?_; rintro e w' ⟨rfl, rfl⟩; rw [HB.out])
          go_round
          case rel => exact ⟨j + 1, by omega, by go_num, fun m hm => by
            by_cases e : m = j
            · subst e; rw [← HZ.out]; exact HB.out
            · exact HA.out m (by omega)⟩
          case measure => simp [intOf]; omega
        | false =>
          have HB := hidd hb
          have H := hidd (allB_no hlt (by rw [← HZ.out]; exact hb))
          clear hb
          go_wp2_with (go_at_call 98; refine (below61 _ _ _).mono ?_; rintro e w' ⟨rfl, rfl⟩; rw [HB.out])
          go_ret
          exact ⟨by rw [H.out]; rfl, rfl⟩
    · have hje : j = zs.length := by omega
      subst hje
      have H := hidd (allB_yes HA.out)
      go_wp2_with fail
      go_ret
      exact ⟨by rw [H.out]; rfl, rfl⟩
end Go.Proofs.YtckffliiidgilaaDoor
/- PutPoint: the program and its model. -/
namespace Go.Proofs.YtckffliiidgilaaDoor
set_option linter.unusedVariables false
set_option linter.unusedSimpArgs false
open Go Go.RowKit
/-- The bytes with numbers put in from a place on. -/
def putK (bs : List Nat) (E : Nat) (zs : List Int) : Nat → List Nat
  | 0 => bs
  | k + 1 => (putK bs E zs k).set (E + k) (zs.getD k 0).toNat
theorem putK_bys {bs : List Nat} (hb : Bys bs) (E : Nat) {zs : List Int} (hz : ∀ j, j < zs.length → 0 ≤ zs.getD j 0 ∧ zs.getD j 0 < 256) : ∀ k, k ≤ zs.length → Bys (putK bs E zs k)
  | 0, _ => hb
  | k + 1, h => (putK_bys hb E hz k (by omega)).set _ _ (by have := hz k (by omega); omega)
theorem eix_last {i n : Int} (h0 : 0 ≤ i) (h : i < n) : eix i n = edg n + i := by unfold eix; rw [if_neg (by omega)]
theorem edg_last {n : Int} (h1 : 1 ≤ n) (h2 : n ≤ 16) : edg n + n ≤ 136 := by
  have := edg_step n
  have := (edg_bd (show 1 ≤ n + 1 by omega) (show n + 1 ≤ 17 by omega)).2
  omega
theorem below_at61 {B : Nat} {a w : World} (h : Below B a w) {b o : Nat} (hb : B ≤ b) (v : Value) : Below B a (w.setCell ⟨b, o, none⟩ v) := h.setCell hb v
def RelP (n k : Int) (bs : List Nat) (E : Nat) (zs : List Int) (a : Option Addr) (w : World) (j : Nat) (wr : World) : Prop :=
  Blk wr w.heap.size (ccells n k (putK bs E zs j)).toArray 28 ∧ Blk wr (w.heap.size + 1) (ccells 0 0 zbl).toArray 28 ∧ SlI wr a zs ∧ Below w.heap.size w wr
def codeP (n k : Int) (bs : List Nat) (zs : List Int) : Int := if isCol n k bs then (if (zs.length : Int) = n ∧ allB zs k = true then (if n = 17 then 3 else 0) else 2) else 1
def ppN (n k : Int) (bs : List Nat) (zs : List Int) : Int := if codeP n k bs zs = 0 then n + 1 else 0
def ppK (n k : Int) (bs : List Nat) (zs : List Int) : Int := if codeP n k bs zs = 0 then k else 0
def ppB (n k : Int) (bs : List Nat) (zs : List Int) : List Nat := if codeP n k bs zs = 0 then putK bs (edg n).toNat zs zs.length else zbl
/-- What PutPoint returns. -/
def outP (n k : Int) (bs : List Nat) (zs : List Int) : Value := .tuple #[.agg (ccells (ppN n k bs zs) (ppK n k bs zs) (ppB n k bs zs)).toArray, .int .i64 (codeP n k bs zs)]
theorem outP_bad {n k : Int} {bs : List Nat} {zs : List Int} {m : Int} (h : codeP n k bs zs = m) (hm : m ≠ 0) : outP n k bs zs = .tuple #[.agg (ccells 0 0 zbl).toArray, .int .i64 m] := by
  simp [outP, ppN, ppK, ppB, h, hm]
theorem outP_good {n k : Int} {bs : List Nat} {zs : List Int} (h : codeP n k bs zs = 0) : outP n k bs zs = .tuple #[.agg (ccells (n + 1) k (putK bs (edg n).toNat zs zs.length)).toArray, .int .i64 0] := by
  simp [outP, ppN, ppK, ppB, h]
theorem codeP_1 {n k : Int} {bs : List Nat} {zs : List Int} (h : isCol n k bs = false) : codeP n k bs zs = 1 := by simp [codeP, h]
theorem codeP_2 {n k : Int} {bs : List Nat} {zs : List Int} (h : isCol n k bs = true) (h2 : ¬ (zs.length : Int) = n ∨ allB zs k = false) : codeP n k bs zs = 2 := by
  unfold codeP; rw [if_pos h, if_neg]
  rintro ⟨h3, h4⟩
  rcases h2 with h2 | h2
  · exact h2 h3
  · rw [h4] at h2; cases h2
theorem codeP_3 {n k : Int} {bs : List Nat} {zs : List Int} (h : isCol n k bs = true) (h2 : (zs.length : Int) = n) (h3 : allB zs k = true) (h4 : n = 17) : codeP n k bs zs = 3 := by
  unfold codeP; rw [if_pos h, if_pos ⟨h2, h3⟩, if_pos h4]
theorem codeP_0 {n k : Int} {bs : List Nat} {zs : List Int} (h : isCol n k bs = true) (h2 : (zs.length : Int) = n) (h3 : allB zs k = true) (h4 : ¬ n = 17) : codeP n k bs zs = 0 := by
  unfold codeP; rw [if_pos h, if_pos ⟨h2, h3⟩, if_neg h4]
theorem ppB_bys {n k : Int} {bs : List Nat} (hb : Bys bs) (zs : List Int) : Bys (ppB n k bs zs) := by
  unfold ppB
  split
  · rename_i h
    unfold codeP at h
    split at h
    · rename_i hc
      split at h
      · rename_i h2
        have := isCol_bd hc
        exact putK_bys hb _ (fun j hj => by have := allB_get h2.2 hj; omega) _ (Nat.le_refl _)
      · omega
    · omega
  · exact zbl_bys
end Go.Proofs.YtckffliiidgilaaDoor
/- Lists that a call makes: what is owned, marked and held. -/
namespace Go.Proofs.YtckffliiidgilaaDoor
set_option linter.unusedVariables false
set_option linter.unusedSimpArgs false
open Go Go.RowKit
theorem own_below {w w' : World} {base : Nat} {e : TypeId} {size : Nat} {v : Value} {n : Nat} {xs : List Value} (h : w.ownsRow base e size v n xs) {B : Nat} (hb : Below B w w') (hB : w.heap.size ≤ B) : w'.ownsRow base e size v n xs := by
  refine ⟨h.1, ?_⟩
  rcases h.2 with h2 | ⟨g, cap, cur, hv, hg, hc, r⟩
  · exact .inl h2
  · have hlt : g < w.heap.size := (Array.getElem?_eq_some_iff.1 hc).1
    exact .inr ⟨g, cap, cur, hv, hg, by rw [hb.block g (by omega)]; exact hc, r⟩
/-- A list of the call's own, from block B on. -/
def OwnL (w : World) (B : Nat) (a : Option Addr) (zs : List Int) : Prop :=
  zs = [] ∨ ∃ g C, B ≤ g ∧ a = some ⟨g, 0, none⟩ ∧ Blk w g C 2 ∧ zs.length ≤ C.size ∧ ∀ j, j < zs.length → C[j]? = some (.int .i64 (zs.getD j 0))
theorem OwnL.below {w w' : World} {B : Nat} {a : Option Addr} {zs : List Int} (h : OwnL w B a zs) {B' : Nat} (hb : Below B' w w') (hB : w.heap.size ≤ B') : OwnL w' B a zs := by
  rcases h with h | ⟨g, C, h1, h2, h3, h4⟩
  · exact .inl h
  · exact .inr ⟨g, C, h1, h2, h3.below hb (by have := h3.lt; omega), h4⟩
/-- What lies wholly below a block that is written stays. -/
theorem OwnL.sl {w : World} {B : Nat} {a : Option Addr} {zs : List Int} (h : OwnL w B a zs) : SlI w a zs := by
  rcases h with h | ⟨g, C, h1, h2, h3, h4, h5⟩
  · exact .inl h
  · exact .inr ⟨g, 0, h2, fun j hj => by rw [Nat.zero_add]; exact h3.cell (h5 j hj)⟩
theorem own_list {w : World} {B : Nat} {v : Value} {zs : List Int} (h : w.ownsRow B 2 1 v zs.length (icells zs)) : ∃ a cap, v = .slice a zs.length cap ∧ OwnL w B a zs := by
  obtain ⟨_, h | ⟨g, cap, cur, hv, hg, hc, hn, _, hs, ht⟩⟩ := h
  · obtain ⟨rfl, h0⟩ := h
    have hz : zs = [] := List.length_eq_zero_iff.1 h0
    subst hz
    exact ⟨none, 0, rfl, .inl rfl⟩
  · refine ⟨some ⟨g, 0, none⟩, cap, hv, .inr ⟨g, cur, hg, rfl, hc, by omega, fun j hj => ?_⟩⟩
    have h1 : (cur.toList.take (zs.length * 1))[j]? = (icells zs)[j]? := by rw [ht]
    rw [List.getElem?_take, if_pos (by omega)] at h1
    have h2 := icells_get hj
    simp only [List.getElem?_toArray] at h2
    rw [h2] at h1
    simpa using h1
/-- The numbers that the laws lay into a list. -/
def marks (k : Int) (n : Nat) : List Int := (List.range n).map fun (j : Nat) => k + (j : Int)
theorem marks_len (k : Int) (n : Nat) : (marks k n).length = n := by simp [marks]
theorem marks_get {k : Int} {n j : Nat} (h : j < n) : (marks k n).getD j 0 = k + (j : Int) := by simp [marks, List.getD, h]
def RelM (C : Array Value) (k : Int) (g : Nat) (w : World) (j : Nat) (D : Array Value) (wr : World) : Prop :=
  Blk wr g D 2 ∧ D.size = C.size ∧ (∀ m, m < j → D[m]? = some (.int .i64 (k + (m : Int)))) ∧ Below g w wr
set_option maxRecDepth 100000 in
set_option maxHeartbeats 400000 in
theorem mark29 (n : Nat) (a : Option Addr) (cap : Nat) (B : Nat) (k : Int) (zs : List Int) (w : World) (hz : zs.length = n) (h : OwnL w B a zs) (hB : B ≤ w.heap.size) (hn : n ≤ 1048576) (hk0 : 0 ≤ k) (hk1 : k ≤ 1048576) :
    Calls Tryd.prog 22 #[.slice a n cap, .int .i64 k] w fun e w' => e = .returned (.int .i64 (k + n)) ∧ OwnL w' B a (marks k n) ∧ Below B w w' := by
  rcases h with h | ⟨g, C, h1, h2, h3, h4, h5⟩
  · subst h
    simp at hz
    subst hz
    go_enter Tryd.func22, Tryd.ntmps22
    go_wp2
    refine wp_loop_rounds 1 ?_
    rw [rounds_succ]
    go_wp2
    go_ret
    exact ⟨by simp, .inl rfl, Below.refl _ _⟩
  · subst h2
    rw [hz] at h4
    clear h5 hz
    have hk := h3.lt
    go_enter Tryd.func22, Tryd.ntmps22
    go_wp2_with fail
    go_loopw [1, 5] (fun kk i wr => ∃ j : Nat, j ≤ n ∧ i = .int .i64 j ∧ kk = .int .i64 (k + j) ∧ ∃ D, RelM C k g w j D wr) (fun _ i _ => n - (intOf i).toNat)
    case atStart => exact ⟨0, by omega, rfl, by simp, C, h3, rfl, fun m hm => absurd hm (by omega), Below.refl _ _⟩
    case round =>
      obtain ⟨j, hj, rfl, rfl, D, HR⟩ := hrel
      by_cases hlt : j < n
      · obtain ⟨old, ho⟩ : ∃ old, wr.cell? ⟨g, j, none⟩ = some old := ⟨_, HR.1.cell (Array.getElem?_eq_getElem (by rw [HR.2.1]; omega))⟩
        have hf := HR.1.fro j
        have K := hidd (show RelM C k g w (j + 1) (D.setIfInBounds j (.int .i64 (k + (j : Int)))) (wr.setCell ⟨g, j, none⟩ (.int .i64 (k + (j : Int)))) from
          ⟨HR.1.same _ _, by simp [HR.2.1], fun m hm => by
            rw [Array.getElem?_setIfInBounds]
            by_cases e : j = m
            · subst e; rw [if_pos rfl, if_pos (by rw [HR.2.1]; omega)]
            · rw [if_neg e]; exact HR.2.2.1 m (by omega), HR.2.2.2.setCell (Nat.le_refl _) _⟩)
        clear HR
        go_wp2_with fail
        go_roundw
        case rel => exact ⟨j + 1, by omega, by go_num, by congr 1; omega, _, K.out⟩
        case measure => simp [intOf]; omega
      · have hje : j = n := by omega
        subst hje
        go_wp2_with fail
        go_ret
        exact ⟨rfl, .inr ⟨g, D, h1, rfl, HR.1, by rw [marks_len, HR.2.1]; exact h4, fun m hm => by
          rw [marks_len] at hm
          rw [HR.2.2.1 m hm, marks_get hm]⟩, HR.2.2.2.mono h1⟩
set_option maxRecDepth 100000 in
set_option maxHeartbeats 400000 in
theorem held30 (n : Nat) (a : Option Addr) (cap : Nat) (B : Nat) (k : Int) (w : World) (h : OwnL w B a (marks k n)) (hn : n ≤ 1048576) (hk0 : 0 ≤ k) (hk1 : k ≤ 1048576) :
    Calls Tryd.prog 23 #[.slice a n cap, .int .i64 k] w fun e w' => e = .returned (.int .i64 (k + n)) ∧ w = w' := by
  go_enter Tryd.func23, Tryd.ntmps23
  go_wp2_with fail
  go_loop [1, 5] (fun kk i => ∃ j : Nat, j ≤ n ∧ i = .int .i64 j ∧ kk = .int .i64 (k + j)) (fun _ i => n - (intOf i).toNat)
  case atStart => exact ⟨0, by omega, rfl, by simp⟩
  case round =>
    obtain ⟨j, hj, rfl, rfl⟩ := hrel
    by_cases hlt : j < n
    · rcases h with h | ⟨g, C, h1, h2, h3, h4, h5⟩
      · have := marks_len k n
        rw [h] at this; simp at this; omega
      · subst h2
        have hc := h3.cell (h5 j (by rw [marks_len]; exact hlt))
        rw [marks_get hlt] at hc
        have hne : (k + (j : Int) != k + (j : Int)) = false := by simp
        have HH := hidd h5
        clear h5
        go_wp2_with fail
        go_round
        case rel => exact ⟨j + 1, by omega, by go_num, by congr 1; omega⟩
        case measure => simp [intOf]; omega
    · have hje : j = n := by omega
      subst hje
      go_wp2_with fail
      go_ret
      exact ⟨rfl, rfl⟩
end Go.Proofs.YtckffliiidgilaaDoor
/- My texts Nbr, Around, Neighbours, Iter, Fence, CountEdges, Paint, ColouringOf, ColouringIm, in one. -/
/- Neighbours as lists and as digits in base 2. -/
namespace Go.Proofs.YtckffliiidgilaaDoor
set_option linter.unusedVariables false
set_option linter.unusedSimpArgs false
open Go Go.RowKit
/-- Is the point j a neighbour of i in the colour c? -/
def nbB (bs : List Nat) (i c : Int) (j : Nat) : Bool := decide ((j : Int) ≠ i) && decide (colAt bs i j = c)
def nbK (p : Nat → Bool) : Nat → List Int
  | 0 => []
  | k + 1 => if p k then nbK p k ++ [(k : Int)] else nbK p k
def arK (p : Nat → Bool) : Nat → Nat
  | 0 => 0
  | k + 1 => if p k then arK p k ||| 2 ^ k else arK p k
theorem nbK_len (p : Nat → Bool) : ∀ k, (nbK p k).length ≤ k
  | 0 => by simp [nbK]
  | k + 1 => by
    have := nbK_len p k
    unfold nbK
    split
    · simp; omega
    · omega
theorem nbK_congr {p q : Nat → Bool} : ∀ (k : Nat), (∀ j, j < k → p j = q j) → nbK p k = nbK q k
  | 0, _ => rfl
  | k + 1, h => by
    unfold nbK
    rw [h k (by omega), nbK_congr k (fun j hj => h j (by omega))]
theorem nbK_more {p : Nat → Bool} {m : Nat} (h : ∀ j, m ≤ j → p j = false) : ∀ (d : Nat), nbK p (m + d) = nbK p m
  | 0 => rfl
  | d + 1 => by
    rw [← Nat.add_assoc, nbK, h (m + d) (by omega)]
    exact nbK_more h d
theorem arK_lt (p : Nat → Bool) : ∀ k, arK p k < 2 ^ k
  | 0 => by simp [arK]
  | k + 1 => by
    have h := arK_lt p k
    have h2 : 2 ^ k < 2 ^ (k + 1) := Nat.pow_lt_pow_right (by omega) (by omega)
    unfold arK
    split
    · exact Nat.or_lt_two_pow (by omega) h2
    · omega
theorem arK_bit (p : Nat → Bool) : ∀ k j, (arK p k).testBit j = (decide (j < k) && p j)
  | 0, j => by simp [arK]
  | k + 1, j => by
    have ih := arK_bit p k j
    unfold arK
    by_cases h : p k = true
    · rw [if_pos h, Nat.testBit_or, ih, Nat.testBit_two_pow]
      by_cases e : k = j
      · subst e; simp [h]
      · by_cases l : j < k
        · simp [l, e, show j < k + 1 by omega]
        · simp [l, e, show ¬ j < k + 1 by omega]
    · rw [if_neg h, ih]
      by_cases e : k = j
      · subst e; simp [h]
      · by_cases l : j < k
        · simp [l, show j < k + 1 by omega]
        · simp [l, show ¬ j < k + 1 by omega]
theorem ofInt_i64 (a : Nat) (ha : a < 18446744073709551616) : (BitVec.ofInt 64 (a : Int)).toNat = a := by
  rw [BitVec.ofInt_natCast, BitVec.toNat_ofNat]; exact Nat.mod_eq_of_lt (by omega)
theorem i64_or_nat (a b : Nat) (ha : a < 4611686018427387904) (hb : b < 4611686018427387904) : bits .or .i64 (a : Int) (b : Int) = ((a ||| b : Nat) : Int) := by
  have hx : a ||| b < 2 ^ 62 := Nat.or_lt_two_pow (by omega) (by omega)
  show IntKind.i64.wrap ((BitVec.ofInt 64 (a : Int) ||| BitVec.ofInt 64 (b : Int)).toNat : Int) = _
  rw [BitVec.toNat_or, ofInt_i64 a (by omega), ofInt_i64 b (by omega)]
  exact IntWalk.i64_in _ (by omega)
theorem i64_and_nat (a b : Nat) (ha : a < 4611686018427387904) (hb : b < 4611686018427387904) : bits .and .i64 (a : Int) (b : Int) = ((a &&& b : Nat) : Int) := by
  have hx : a &&& b < 2 ^ 62 := Nat.and_lt_two_pow _ (by omega)
  show IntKind.i64.wrap ((BitVec.ofInt 64 (a : Int) &&& BitVec.ofInt 64 (b : Int)).toNat : Int) = _
  rw [BitVec.toNat_and, ofInt_i64 a (by omega), ofInt_i64 b (by omega)]
  exact IntWalk.i64_in _ (by omega)
/-- The test of a digit as the walk shows it. -/
theorem bit_test (S j : Nat) (hS : S < 4611686018427387904) : (bits .and .i64 ((S : Int) / 2 ^ j) 1 == 1) = S.testBit j := by
  have e : ((S : Int) / 2 ^ j) = ((S / 2 ^ j : Nat) : Int) := by simp
  have hlt : S / 2 ^ j < 4611686018427387904 := Nat.lt_of_le_of_lt (Nat.div_le_self _ _) hS
  rw [e]
  have := i64_and_nat (S / 2 ^ j) 1 hlt (by omega)
  simp only [Nat.and_one_is_mod] at this
  rw [show ((1 : Nat) : Int) = 1 from rfl] at this
  rw [this, Nat.testBit_eq_decide_div_mod_eq]
  rw [Bool.eq_iff_iff]
  simp only [beq_iff_eq, decide_eq_true_eq]
  omega
theorem one_new (w : World) (x : Value) (t : TypeId) : ∀ j u, [x][j]? = some u → (w.alloc (.cells #[x] t)).cell? ((⟨w.heap.size, 0, none⟩ : Addr).add j) = some u := by
  intro j u hj
  rw [Addr.add_mid]
  cases j with
  | zero => exact (Blk.new w #[x] t _ rfl).cell (by simpa using hj)
  | succ j => simp at hj
def RelPts (p : Nat → Bool) (w : World) (j : Nat) (v : Value) (wr : World) : Prop := wr.ownsRow w.heap.size 2 1 v (nbK p j).length (icells (nbK p j)) ∧ Below w.heap.size w wr
theorem icells_app (a b : List Int) : icells (a ++ b) = icells a ++ icells b := by simp [icells]
end Go.Proofs.YtckffliiidgilaaDoor
/- The neighbours: the model's digits, the program's list. -/
namespace Go.Proofs.YtckffliiidgilaaDoor
set_option linter.unusedVariables false
set_option linter.unusedSimpArgs false
open Go Go.RowKit
theorem or_bit (A j : Nat) (hA : A < 2 ^ 17) (hj : j < 17) : bits .or .i64 (A : Int) (wrap64 (2 ^ j)) = ((A ||| 2 ^ j : Nat) : Int) := by
  have h2 : 2 ^ j < 2 ^ 17 := Nat.pow_lt_pow_right (by omega) hj
  have e : (2 : Int) ^ j = ((2 ^ j : Nat) : Int) := by simp
  rw [e]
  generalize 2 ^ j = y at *
  rw [IntWalk.wrap64_in _ ⟨by omega, by omega⟩]
  exact i64_or_nat A y (by omega) (by omega)
def Rel63 (C : Array Value) (w : World) (wr : World) : Prop := Blk wr w.heap.size C 28 ∧ Below w.heap.size w wr
set_option maxRecDepth 100000 in
set_option maxHeartbeats 400000 in
theorem around63 (n k : Int) (bs : List Nat) (hb : Bys bs) (i c : Int) (w : World) (n1 : 1 ≤ n) (n2 : n ≤ 17) (i0 : 0 ≤ i) (i1 : i < n) :
    Calls Tryd.prog 70 #[.agg (ccells n k bs).toArray, .int .i64 i, .int .i64 c] w fun e w' => e = .returned (.int .i64 (arK (nbB bs i c) n.toNat : Nat)) ∧ Below w.heap.size w w' := by
  obtain ⟨N, rfl⟩ := Int.eq_ofNat_of_zero_le (show 0 ≤ n by omega)
  rw [Int.toNat_natCast]
  have HS := hidd (size_c26 (N : Int) k hb)
  have HC0 := hidd (show (ccells (N : Int) k bs).toArray[0]? = some (.int .i64 (N : Int)) from rfl)
  go_enter Tryd.func70, Tryd.ntmps70
  go_wp2_with fail
  go_loopw [7, 8] (fun s e wr => ∃ j : Nat, j ≤ N ∧ e = .int .i64 j ∧ s = .int .i64 (arK (nbB bs i c) j : Nat) ∧ Rel63 (ccells (N : Int) k bs).toArray w wr) (fun _ e _ => N - (intOf e).toNat)
  case atStart => exact ⟨0, by omega, rfl, rfl, Blk.new _ _ _ _ rfl, (Below.refl _ _).alloc (Nat.le_refl _) _⟩
  case round =>
    obtain ⟨j, hj, rfl, rfl, HR⟩ := hrel
    have hw0 := HR.1.cell HC0.out
    by_cases hlt : j < N
    · obtain ⟨A, hA⟩ : ∃ A, A = arK (nbB bs i c) j := ⟨_, rfl⟩
      have hAlt : A < 2 ^ 17 := Nat.lt_of_lt_of_le (by rw [hA]; exact arK_lt _ j) (Nat.pow_le_pow_right (by omega) (by omega))
      rw [← hA]
      have HK := hidd HR
      clear HR
      by_cases hij : (j : Int) = i
      · have hnb : nbB bs i c j = false := by simp [nbB, hij]
        have HH := hidd (show arK (nbB bs i c) (j + 1) = A by rw [arK, hnb, hA]; rfl)
        have hz : ((j : Int) != i) = false := by simpa using hij
        clear hij hA
        go_wp2_with fail
        go_roundw
        case rel => exact ⟨j + 1, by omega, by go_num, by rw [HH.out], HK.out⟩
        case measure => simp [intOf]; omega
      · have hz : ((j : Int) != i) = true := by rw [bne_iff_ne]; exact hij
        have HIJ := hidd (show i ≠ (j : Int) from fun e => hij e.symm)
        by_cases hc : colAt bs i j = c
        · have hnb : nbB bs i c j = true := by simp [nbB, hij, hc]
          have HH := hidd (show arK (nbB bs i c) (j + 1) = A ||| 2 ^ j by rw [arK, hnb, hA]; rfl)
          have hcc : (colAt bs i j == c) = true := by simpa using hc
          have HCC := hidd hcc
          have HOR := hidd (or_bit A j hAlt (by omega))
          clear hij hA hc hcc
          go_wp2_with (first
            | (refine wpList_load_if rfl 28 (.tmp 3) rfl w.heap.size rfl 28 _ _ HK.out.1 Tryd.underlying28 rfl HS.out ?_))
          refine (at57 (N : Int) k bs hb N i j _ n2 i0 i1 (by omega) (by omega) HIJ.out).mono ?_
          rintro e w1 ⟨rfl, hb1⟩
          have K2 := hidd (show Rel63 (ccells (N : Int) k bs).toArray w w1 from ⟨HK.out.1.below hb1 HK.out.1.lt, HK.out.2.trans (hb1.mono HK.out.2.size)⟩)
          have hcc := HCC.out
          clear hb1
          go_wp2_with fail
          go_roundw
          case rel => exact ⟨j + 1, by omega, by go_num, by rw [HOR.out, HH.out], K2.out⟩
          case measure => simp [intOf]; omega
        · have hnb : nbB bs i c j = false := by simp [nbB, hij, hc]
          have HH := hidd (show arK (nbB bs i c) (j + 1) = A by rw [arK, hnb, hA]; rfl)
          have hcc : (colAt bs i j == c) = false := by simpa using hc
          have HCC := hidd hcc
          clear hij hA hc hcc
          go_wp2_with (first
            | (refine wpList_load_if rfl 28 (.tmp 3) rfl w.heap.size rfl 28 _ _ HK.out.1 Tryd.underlying28 rfl HS.out ?_))
          refine (at57 (N : Int) k bs hb N i j _ n2 i0 i1 (by omega) (by omega) HIJ.out).mono ?_
          rintro e w1 ⟨rfl, hb1⟩
          have K2 := hidd (show Rel63 (ccells (N : Int) k bs).toArray w w1 from ⟨HK.out.1.below hb1 HK.out.1.lt, HK.out.2.trans (hb1.mono HK.out.2.size)⟩)
          have hcc := HCC.out
          clear hb1
          go_wp2_with fail
          go_roundw
          case rel => exact ⟨j + 1, by omega, by go_num, by rw [HH.out], K2.out⟩
          case measure => simp [intOf]; omega
    · have hje : j = N := by omega
      subst hje
      go_wp2_with fail
      go_ret
      exact ⟨rfl, HR.2⟩
/-- Behind an append: below the list's own blocks nothing has turned. -/
theorem grown_step {w1 w2 : World} {B : Nat} {e : TypeId} {size : Nat} {v : Value} {n : Nat} {xs : List Value} {o : Obj} (hown : w1.ownsRow B e size v n xs) (hg : (w1.alloc o).grownBy w2 v.ownBlock) (hB : B ≤ w1.heap.size) : Below B w1 w2 :=
  ((Below.refl B w1).alloc hB o).grown hg (by simp; omega) (fun g hgg => by
    rcases hown.2 with ⟨h1, _⟩ | ⟨g', cap', cur', h1, h2, _⟩
    · rw [h1] at hgg; cases hgg
    · rw [h1] at hgg; cases hgg; exact h2)
theorem own_base {w : World} {B B' : Nat} {e : TypeId} {size : Nat} {v : Value} {n : Nat} {xs : List Value} (h : w.ownsRow B e size v n xs) (hB : B' ≤ B) : w.ownsRow B' e size v n xs := by
  refine ⟨h.1, ?_⟩
  rcases h.2 with h2 | ⟨g, cap, cur, hv, hg, r⟩
  · exact .inl h2
  · exact .inr ⟨g, cap, cur, hv, by omega, r⟩
def RelN (p : Nat → Bool) (C : Array Value) (w : World) (j : Nat) (v : Value) (wr : World) : Prop := Blk wr w.heap.size C 28 ∧ wr.ownsRow (w.heap.size + 1) 2 1 v (nbK p j).length (icells (nbK p j)) ∧ Below w.heap.size w wr
theorem RelN.skip {p : Nat → Bool} {C : Array Value} {w wr w1 : World} {j : Nat} {v : Value} (h : RelN p C w j v wr) (hb : Below wr.heap.size wr w1) (hp : p j = false) : RelN p C w (j + 1) v w1 :=
  ⟨h.1.below hb h.1.lt, by rw [nbK, hp]; exact own_below h.2.1 hb (Nat.le_refl _), h.2.2.trans (hb.mono h.2.2.size)⟩
end Go.Proofs.YtckffliiidgilaaDoor
/- NeighboursOf: the program and its model. -/
namespace Go.Proofs.YtckffliiidgilaaDoor
set_option linter.unusedVariables false
set_option linter.unusedSimpArgs false
open Go Go.RowKit
/-- A list of the call's own and a code. -/
def LOut (w : World) (zs : List Int) (code : Int) (e : Ending) (w' : World) : Prop :=
  ∃ a cap, e = .returned (.tuple #[.slice a zs.length cap, .int .i64 code]) ∧ OwnL w' w.heap.size a zs ∧ Below w.heap.size w w'
theorem lout_nil {w w' : World} {code : Int} {e : Ending} (he : e = .returned (.tuple #[.slice none 0 0, .int .i64 code])) (hb : Below w.heap.size w w') : LOut w [] code e w' := ⟨none, 0, he, .inl rfl, hb⟩
theorem lout_own {w w' : World} {zs : List Int} {code : Int} {e : Ending} {v : Value} {B : Nat} (he : e = .returned (.tuple #[v, .int .i64 code])) (h : w'.ownsRow B 2 1 v zs.length (icells zs)) (hB : w.heap.size ≤ B) (hb : Below w.heap.size w w') : LOut w zs code e w' := by
  obtain ⟨a, cap, rfl, ho⟩ := own_list (own_base h hB)
  exact ⟨a, cap, he, ho, hb⟩
def nbCode (n k : Int) (bs : List Nat) (i c : Int) : Int := given n k bs c [i]
def nbList (n k : Int) (bs : List Nat) (i c : Int) : List Int := if given n k bs c [i] = 0 then nbK (nbB bs i c) n.toNat else []
theorem all1 (i n : Int) : allB [i] n = belowB i n := by simp [allB]
theorem nb_bad {n k : Int} {bs : List Nat} {i c m : Int} (h : given n k bs c [i] = m) (hm : m ≠ 0) : nbList n k bs i c = [] ∧ nbCode n k bs i c = m := by
  unfold nbList nbCode; rw [h]; exact ⟨if_neg hm, rfl⟩
theorem nb_good {n k : Int} {bs : List Nat} {i c : Int} (h : given n k bs c [i] = 0) : nbList n k bs i c = nbK (nbB bs i c) n.toNat ∧ nbCode n k bs i c = 0 := by
  unfold nbList nbCode; rw [h]; exact ⟨if_pos rfl, rfl⟩
theorem nbList_len {n k : Int} {bs : List Nat} {i c : Int} : (nbList n k bs i c).length ≤ 17 := by
  unfold nbList
  split
  · rename_i h
    cases hi : isCol n k bs with
    | false => rw [given_1 hi] at h; cases h
    | true =>
      have := isCol_bd hi
      have := nbK_len (nbB bs i c) n.toNat
      omega
  · simp
theorem nb62 (p : Nat → Bool) (N : Nat) (h : N ≤ 62) : nbK (fun j => decide (j < N) && p j) 62 = nbK p N := by
  have h1 := nbK_more (p := fun j => decide (j < N) && p j) (m := N) (fun j hj => by simp [show ¬ j < N by omega]) (62 - N)
  rw [show N + (62 - N) = 62 by omega] at h1
  rw [h1]
  exact nbK_congr N (fun j hj => by simp [hj])
theorem sl1 (w : World) (i : Int) (t : TypeId) (b : Nat) (hb : b = w.heap.size) : SlI (w.alloc (.cells #[.int .i64 i] t)) (some ⟨b, 0, none⟩) [i] := by
  refine .inr ⟨_, _, rfl, fun m hm => ?_⟩
  have hB := Blk.new w #[.int .i64 i] t b hb
  match m, hm with
  | 0, _ => exact hB.cell rfl
end Go.Proofs.YtckffliiidgilaaDoor
/- The function that gives the edges, one by one: its contract for every loop body that leaves its captured number alone. -/
namespace Go.Proofs.YtckffliiidgilaaDoor
set_option linter.unusedVariables false
set_option linter.unusedSimpArgs false
open Go Go.RowKit Go.Shelf
attribute [local go_sem] Oper.semAt_some
/-- The number of the first edge of the greater point h. -/
def eN : Nat → Nat
  | 0 => 0
  | h + 1 => eN h + h
/-- The first l edges of the greater point h: number, lesser point, greater point. -/
def rowE (h l : Nat) : List (Nat × Nat × Nat) := (List.range l).map fun m => (eN h + m, m, h)
/-- The edges whose greater point is less than h. -/
def eseq : Nat → List (Nat × Nat × Nat)
  | 0 => []
  | h + 1 => eseq h ++ rowE h h
theorem eN_edg (h : Nat) : (eN h : Int) = edg (h : Int) := by
  induction h with
  | zero => rfl
  | succ h ih =>
    have := edg_step (h : Int)
    rw [eN]
    rw [show ((h + 1 : Nat) : Int) = (h : Int) + 1 by omega, this]; omega
theorem eseq_len (h : Nat) : (eseq h).length = eN h := by
  induction h with
  | zero => rfl
  | succ h ih => rw [eseq, eN, List.length_append, ih, rowE]; simp
theorem rowE_succ (h l : Nat) : rowE h (l + 1) = rowE h l ++ [(eN h + l, l, h)] := by
  simp [rowE, List.range_succ]
theorem eN_mono {a b : Nat} (h : a ≤ b) : eN a ≤ eN b := by
  induction b with
  | zero => obtain rfl : a = 0 := by omega
            exact Nat.le_refl _
  | succ b ih =>
    by_cases e : a = b + 1
    · subst e; exact Nat.le_refl _
    · exact Nat.le_trans (ih (by omega)) (by rw [eN]; omega)
theorem eN_17 {n : Nat} (h : n ≤ 17) : eN n ≤ 136 := by
  have := eN_mono h
  have e : eN 17 = 136 := rfl
  omega
/-- An edge between N points: its number, its lesser point, its greater point. -/
def Edg (N : Nat) : Type := { x : Nat × Nat × Nat // x.1 = eN x.2.2 + x.2.1 ∧ x.2.1 < x.2.2 ∧ x.2.2 < N }
def Edg.v {N : Nat} (x : Edg N) : Nat × Nat × Nat := x.1
def encE {N : Nat} (x : Edg N) : Array Value := #[.int .i64 (x.1.1 : Int), .agg #[.int .i64 (x.1.2.1 : Int), .int .i64 (x.1.2.2 : Int)]]
theorem Edg.lt {N : Nat} (x : Edg N) : x.1.1 < eN N := by
  obtain ⟨h1, h2, h3⟩ := x.2
  have := eN_mono (show x.1.2.2 + 1 ≤ N by omega)
  rw [eN] at this; omega
/-- The block B lies as it lay. -/
def KpB (B : Nat) (W W' : World) : Prop := W'.heap[B]? = W.heap[B]?
theorem kpB_t {B : Nat} {X Y Z : World} (h : KpB B X Y) (k : KpB B Y Z) : KpB B X Z := Eq.trans k h
theorem kpB_b {B : Nat} {w : World} (hB : B < w.heap.size) (W : World) (l : Nat) (o o' : Obj) (hl : w.heap.size ≤ l) (_ : W.heap[l]? = some o) (_ : o.isCells = false) (_ : o.isWalk = false) : KpB B W (W.putObj l o') :=
  World.putObj_heap_other (by omega)
theorem blk_kp {B : Nat} {W W' : World} {C : Array Value} {t : TypeId} (h : Blk W B C t) (k : KpB B W W') : Blk W' B C t := Eq.trans k h
def RelI (Bn : Nat) (N : Nat) (J : List (Edg N) → World → Prop) (xs : List (Nat × Nat × Nat)) (wr : World) : Prop := (∃ ys : List (Edg N), ys.map Edg.v = xs ∧ J ys wr) ∧ Blk wr Bn #[.int .i64 (N : Int)] 2
set_option maxRecDepth 100000 in
set_option maxHeartbeats 1000000 in
theorem iter80 (m l Bn : Nat) (N : Nat) (hN1 : 1 ≤ N) (hN : N ≤ 17) (J Jx : List (Edg N) → World → Prop)
    (hY : ∀ pre x W, J pre W → pre.length < eN N → YieldAt Fence.wide m Tryd.prog l (encE x) W fun e W' =>
      (e = .returned (.bool true) ∧ J (pre ++ [x]) W' ∧ KpB Bn W W') ∨ (e = .returned (.bool false) ∧ Jx (pre ++ [x]) W'))
    (W : World) (hB : Blk W Bn #[.int .i64 (N : Int)] 2) (h0 : J [] W) :
    CallsIn Fence.wide (m + 1) Tryd.prog 113 #[.func (.yield l) #[] #[], .pointer (some ⟨Bn, 0, none⟩)] W fun e W' => (∃ v, e = .returned v) ∧
      ((∃ ys : List (Edg N), ys.map Edg.v = eseq N ∧ J ys W') ∨ (∃ pre, True ∧ Jx pre W')) := by
  refine callsIn_of_wp Tryd.func113 rfl trivial ?_ rfl
  simp only [Tryd.ntmps113, List.size_toArray, List.length_cons, List.length_nil, Nat.reduceAdd, Nat.reduceSub, Array.replicate_succ, Array.replicate_zero, List.push_toArray, List.append_toArray, List.nil_append, List.cons_append]
  have HY := hidd hY
  clear hY
  gi_wp2
  gi_loopw [3, 4] (fun k h wr => ∃ b : Nat, b ≤ N ∧ 1 ≤ b ∧ h = .int .i64 b ∧ k = .int .i64 (eN b : Nat) ∧ RelI Bn N J (eseq b) wr)
    (fun _ h _ => N - (intOf h).toNat)
  case atStart => exact ⟨1, hN1, Nat.le_refl _, rfl, rfl, ⟨[], rfl, h0⟩, hB⟩
  case round =>
    obtain ⟨b, hb, hb1, rfl, rfl, HR⟩ := hrel
    obtain ⟨wo, rfl⟩ : ∃ wo : World, wo = wr := ⟨_, rfl⟩
    have hc := HR.2.cell (j := 0) (show _ = some (Value.int .i64 (N : Int)) from rfl)
    have hbig := eN_17 hN
    have hbb := eN_mono hb
    by_cases hlt : b < N
    · have HH := hidd HR
      clear HR
      gi_wp2
      gi_loopw [3, 5] (fun k e wr => ∃ i q : Nat, i ≤ b ∧ q = eN b + i ∧ e = .int .i64 i ∧ k = .int .i64 (q : Int) ∧ RelI Bn N J (eseq b ++ rowE b i) wr)
        (fun _ e _ => b - (intOf e).toNat)
      case atStart => exact ⟨0, eN b, by omega, rfl, rfl, rfl, by simpa [rowE] using HH.out⟩
      case round =>
        obtain ⟨i, q, hi, hq, rfl, rfl, HR2⟩ := hrel
        have hqb : q ≤ 272 := by omega
        have HQ := hidd hq
        clear hq
        by_cases hlt2 : i < b
        · obtain ⟨⟨ys, hys, hJy⟩, hBy⟩ := HR2
          have hlen : ys.length < eN N := by
            have h1 := eN_mono (show b + 1 ≤ N by omega)
            rw [eN] at h1
            have h2 : (ys.map Edg.v).length = (eseq b ++ rowE b i).length := by rw [hys]
            rw [List.length_map, List.length_append, eseq_len] at h2
            simp [rowE] at h2; omega
          have HYS := hidd hys
          clear hys
          obtain ⟨fn, tmps, assign, body, hy, hR⟩ := HY.out ys ⟨(q, i, b), HQ.out, hlt2, hlt⟩ wr hJy hlen
          have HK := hidd hBy
          have HRR := hidd hR
          clear hBy hR hlen hJy
          dsimp only [encE] at hy
          gi_wp2
          refine HRR.out.mono ?_
          rintro e W3 (⟨rfl, hJ3, hk3⟩ | ⟨rfl, hx3⟩)
          · have hrow : rowE b (i + 1) = rowE b i ++ [(q, i, b)] := by rw [rowE_succ, HQ.out]
            have K3 := hidd (show RelI Bn N J (eseq b ++ rowE b (i + 1)) W3 from ⟨⟨_, by rw [List.map_append, HYS.out, hrow, ← List.append_assoc]; rfl, hJ3⟩, blk_kp HK.out hk3⟩)
            clear hJ3 hk3 hrow
            gi_wp2
            go_roundw
            case rel => exact ⟨i + 1, q + 1, by omega, by have := HQ.out; omega, by go_num, by go_num, K3.out⟩
            case measure => simp [intOf]; omega
          · have X3 := hidd hx3
            clear hx3
            gi_wp2
            refine bodyPost_ret (results_none rfl _ _ _) rfl ?_
            exact ⟨⟨_, rfl⟩, .inr ⟨_, trivial, X3.out⟩⟩
        · have hib : i = b := by omega
          subst hib
          have HK := hidd HR2
          clear HR2
          gi_wp2
          go_roundw
          case rel => exact ⟨i + 1, by omega, by omega, by go_num, by rw [eN, ← HQ.out], by rw [eseq]; exact HK.out⟩
          case measure => simp [intOf]; omega
    · have hbN : b = N := by omega
      subst hbN
      have HK := hidd HR
      clear HR
      gi_wp2
      go_end0
      exact ⟨⟨_, rfl⟩, .inl HK.out.1⟩
end Go.Proofs.YtckffliiidgilaaDoor
/- Whole rows loaded and stored inside a fence, and the edges' function as a value. -/
namespace Go.Proofs.YtckffliiidgilaaDoor
set_option linter.unusedVariables false
set_option linter.unusedSimpArgs false
open Go Go.RowKit Go.Shelf
section
variable {F : Fence} {n : Nat} {P : Program} {ops : Array Oper} {rest : List Oper} {o : Oper} {a : Act} {w : World} {Q : Exit → Act → World → Prop}
theorem inLoadRow (hgd : o.guard = none) (ty : TypeId) (x : Operand) (ho : o.op = .load ty x)
    (g : Nat) (hx : a.eval x = .pointer (some ⟨g, 0, none⟩)) (t : TypeId) (cs : Array Value) (d : TypeDesc) (hg : Blk w g cs t)
    (hu : P.underlying ty = some d) (hd : (match d with | .struct _ | .array _ _ => true | _ => false) = true) (hi : (P.info? ty).map (·.size) = some cs.size)
    (h : wpListIn F n P ops Q rest (a.put o.dst (.agg cs)) w) : wpListIn F n P ops Q (o :: rest) a w := by
  refine wpListIn_plain hgd fun K hK => ?_
  unfold Oper.wpIn
  rw [Oper.semAt_eq _ _ _ (fun c h => by rw [ho] at h; cases h)]
  refine ⟨fun f hf => by simp [Oper.about, ho] at hf, ?_⟩
  unfold execOp
  simp only [ho, hx, Instr.loadAt, Instr.sureAddr, Sem.run_bind, Sem.run_pure, Result.andThen_ok, run_loadVar_row w g t ty cs (0, 0) d hg hu hd hi]
  exact hK _ _ h
theorem inStoreRow (hgd : o.guard = none) (ty : TypeId) (x y : Operand) (ho : o.op = .store ty x y)
    (g : Nat) (cells : Array Value) (hx : a.eval x = .pointer (some ⟨g, 0, none⟩)) (hy : a.eval y = .agg cells)
    (t : TypeId) (old : Array Value) (hg : Blk w g old t) (hi : (P.info? ty).map (·.size) = some cells.size)
    (hold : old.size = cells.size) (h1 : cells.all (·.oneCell') = true)
    (h : wpListIn F n P ops Q rest (a.put o.dst undef) (w.setRow g cells)) : wpListIn F n P ops Q (o :: rest) a w := by
  refine wpListIn_plain hgd fun K hK => ?_
  unfold Oper.wpIn
  rw [Oper.semAt_eq _ _ _ (fun c h => by rw [ho] at h; cases h)]
  refine ⟨fun f hf => by simp [Oper.about, ho] at hf, ?_⟩
  unfold execOp
  simp only [ho, hx, hy, Instr.storeAt, Instr.sureAddr, Sem.run_bind, Sem.run_pure, Result.andThen_ok, run_storeVar_row w g t ty old cells hg hi hold h1]
  exact hK _ _ h
end
set_option maxRecDepth 100000 in
theorem edges66 (n : Int) (w : World) : Calls Tryd.prog 112 #[.int .i64 n] w fun e w' => e = .returned (.func (.func 113) #[] #[.pointer (some ⟨w.heap.size, 0, none⟩)]) ∧ w.alloc (.cells #[.int .i64 n] 2) = w' := by
  have hmf : ∀ (fn : Fn) (first cap : Array Value) (w : World), (Instr.makeFunc fn first cap).run Tryd.prog w = .ok (.func fn first cap) w := fun _ _ _ _ => rfl
  go_enter Tryd.func112, Tryd.ntmps112
  go_wp2
  go_ret
  exact ⟨rfl, rfl⟩
theorem seq80 (m Bn N : Nat) (hN1 : 1 ≤ N) (hN : N ≤ 17) (w : World) (hB : Blk w Bn #[.int .i64 (N : Int)] 2) :
    SeqStopsK Fence.wide (m + 1) Tryd.prog 113 #[.pointer (some ⟨Bn, 0, none⟩)] (fun x : Edg N => encE x) (KpB Bn) (fun ys => ys.map Edg.v = eseq N) (fun _ => True) (eN N) w := fun l J Jx W hW _ _ hY h0 =>
  iter80 m l Bn N hN1 hN J Jx hY W (hB.below hW hB.lt) h0
end Go.Proofs.YtckffliiidgilaaDoor
/- CountEdges: the program and its model. -/
namespace Go.Proofs.YtckffliiidgilaaDoor
set_option linter.unusedVariables false
set_option linter.unusedSimpArgs false
open Go Go.RowKit Go.Shelf
attribute [local go_sem] Oper.semAt_some
/-- The numbers of the edges of each colour, over the first j edges. -/
def cntL (K : Nat) (bs : List Nat) : Nat → List Int
  | 0 => List.replicate K 0
  | j + 1 => (cntL K bs j).set (bs.getD j 0) ((cntL K bs j).getD (bs.getD j 0) 0 + 1)
theorem cntL_len (K : Nat) (bs : List Nat) : ∀ j, (cntL K bs j).length = K
  | 0 => by simp [cntL]
  | j + 1 => by rw [cntL, List.length_set, cntL_len K bs j]
theorem cntL_bd (K : Nat) (bs : List Nat) : ∀ j c, 0 ≤ (cntL K bs j).getD c 0 ∧ (cntL K bs j).getD c 0 ≤ j
  | 0, c => by
    rw [cntL, List.getD_eq_getElem?_getD, List.getElem?_replicate]
    split <;> simp
  | j + 1, c => by
    have h1 := cntL_bd K bs j c
    have h2 := cntL_bd K bs j (bs.getD j 0)
    rw [cntL]
    simp only [List.getD_eq_getElem?_getD] at *
    rw [List.getElem?_set]
    split
    · split
      · simp; omega
      · simp; omega
    · omega
theorem zrow_icells (K : Nat) : zrow K = (icells (List.replicate K 0)).toArray := by
  apply Array.ext'
  rw [zrow, toList_madeCells_one]
  simp [icells]
theorem icells_set (zs : List Int) (c : Nat) (v : Int) : (icells zs).toArray.setIfInBounds c (.int .i64 v) = (icells (zs.set c v)).toArray := by
  simp [icells, List.map_set]
def ceCode (n k : Int) (bs : List Nat) : Int := if isCol n k bs then 0 else 1
def ceList (n k : Int) (bs : List Nat) : List Int := if isCol n k bs then cntL k.toNat bs (eN n.toNat) else []
theorem ceList_len {n k : Int} {bs : List Nat} : (ceList n k bs).length ≤ 17 := by
  unfold ceList
  split
  · rename_i h
    have := isCol_bd h
    rw [cntL_len]; omega
  · simp
theorem col_lt {n k : Int} {bs : List Nat} (h : isCol n k bs = true) {j : Nat} (hj : (j : Int) < edg n) (hj2 : j < 136) : ((bs.getD j 0 : Nat) : Int) < k := by
  have h1 := (isCol_good h).2 j hj2
  unfold goodAt at h1
  rw [if_pos hj] at h1
  exact of_decide_eq_true h1
/-- The numbers of the edges of each colour, over edges that have come. -/
def cntF {N : Nat} (K : Nat) (bs : List Nat) (xs : List (Edg N)) : List Int := xs.foldl (fun L x => L.set (bs.getD x.1.1 0) (L.getD (bs.getD x.1.1 0) 0 + 1)) (List.replicate K 0)
theorem cntF_snoc {N : Nat} (K : Nat) (bs : List Nat) (xs : List (Edg N)) (x : Edg N) : cntF K bs (xs ++ [x]) = (cntF K bs xs).set (bs.getD x.1.1 0) ((cntF K bs xs).getD (bs.getD x.1.1 0) 0 + 1) := by simp [cntF]
theorem cntF_len {N : Nat} (K : Nat) (bs : List Nat) (xs : List (Edg N)) : (cntF K bs xs).length = K := by
  unfold cntF
  suffices h : ∀ (L : List Int), (xs.foldl (fun L x => L.set (bs.getD x.1.1 0) (L.getD (bs.getD x.1.1 0) 0 + 1)) L).length = L.length by rw [h]; simp
  induction xs with
  | nil => intro L; rfl
  | cons x xs ih => intro L; rw [List.foldl_cons, ih]; simp
theorem eseq_nums (h : Nat) : (eseq h).map (·.1) = List.range (eN h) := by
  induction h with
  | zero => rfl
  | succ h ih =>
    rw [eseq, List.map_append, ih, eN, List.range_add]
    simp [rowE]
theorem cntF_eq {N : Nat} (K : Nat) (bs : List Nat) (xs : List (Edg N)) (h : xs.map Edg.v = eseq N) : cntF K bs xs = cntL K bs (eN N) := by
  have h1 : xs.map (fun x => x.1.1) = List.range (eN N) := by
    rw [← eseq_nums, ← h, List.map_map]; rfl
  have h2 : cntF K bs xs = (xs.map (fun x => x.1.1)).foldl (fun L j => L.set (bs.getD j 0) (L.getD (bs.getD j 0) 0 + 1)) (List.replicate K 0) := by
    rw [List.foldl_map]; rfl
  rw [h2, h1]
  generalize eN N = m
  induction m with
  | zero => rfl
  | succ m ih => rw [List.range_succ, List.foldl_append, ih]; rfl
theorem cntF_bd {N : Nat} (K : Nat) (bs : List Nat) (xs : List (Edg N)) : ∀ c, 0 ≤ (cntF K bs xs).getD c 0 ∧ (cntF K bs xs).getD c 0 ≤ xs.length := by
  suffices h : ∀ (ys : List (Edg N)) c, 0 ≤ (cntF K bs ys.reverse).getD c 0 ∧ (cntF K bs ys.reverse).getD c 0 ≤ ys.length by
    intro c
    have := h xs.reverse c
    simpa using this
  intro ys
  induction ys with
  | nil =>
    intro c
    rw [show cntF K bs ([] : List (Edg N)).reverse = List.replicate K 0 from rfl, List.getD_eq_getElem?_getD, List.getElem?_replicate]
    split <;> simp
  | cons y ys ih =>
    intro c
    have h1 := ih c
    have h2 := ih (bs.getD y.1.1 0)
    rw [List.reverse_cons, cntF_snoc]
    simp only [List.getD_eq_getElem?_getD, List.length_cons] at *
    rw [List.getElem?_set]
    split
    · split
      · simp; omega
      · simp; omega
    · omega
theorem ko_drew (W : World) : KeepsOthers W W.drew := ⟨Nat.le_refl _, fun _ _ h _ => h⟩
theorem blk_own {B b : Nat} {W W' : World} {C : Array Value} {t : TypeId} {row : Option Nat} (h : Blk W b C t) (hg : W.grownBy W' row) (hr : ∀ r, row = some r → B ≤ r ∧ ∃ o : Obj, W.heap[r]? = some o ∧ o.isCells = false) : Blk W' b C t := by
  refine (hg.block b h.lt (fun e => ?_)).trans h
  obtain ⟨_, o, ho, hc⟩ := hr b e.symm
  rw [show W.heap[b]? = _ from h] at ho
  cases ho; cases hc
def Rel33 (C : Array Value) (K : Nat) (bs : List Nat) (w : World) (j : Nat) (wr : World) : Prop := Blk wr w.heap.size C 28 ∧ (∃ b, w.heap.size < b ∧ b = w.heap.size + 1 ∧ True) ∧ Below w.heap.size w wr
/-- A list in a block of its own, handed back. -/
theorem own_blk {w : World} {b : Nat} {zs : List Int} {B : Nat} (h : Blk w b (icells zs).toArray 2) (hB : B ≤ b) : OwnL w B (some ⟨b, 0, none⟩) zs :=
  .inr ⟨b, _, hB, rfl, h, by simp [icells_len], fun j hj => icells_get hj⟩
def RelC (n : Int) (k : Int) (bs : List Nat) (g : Nat) (w : World) (j : Nat) (wr : World) : Prop := Blk wr w.heap.size (ccells n k bs).toArray 28 ∧ Blk wr g (icells (cntL k.toNat bs j)).toArray 2 ∧ Below w.heap.size w wr
end Go.Proofs.YtckffliiidgilaaDoor
/- A colouring that a rule tells: the program's paint, for every rule that answers and leaves what lay before it. -/
namespace Go.Proofs.YtckffliiidgilaaDoor
set_option linter.unusedVariables false
set_option linter.unusedSimpArgs false
open Go Go.RowKit Go.Shelf
attribute [local go_sem] Oper.semAt_some
section
variable {F : Fence} {n : Nat} {P : Program} {ops : Array Oper} {rest : List Oper} {o : Oper} {a : Act} {w : World} {Q : Exit → Act → World → Prop}
theorem inBuild (hgd : o.guard = none) (t : TypeId) (parts : Array (Nat × Operand)) (ho : o.op = .build t parts) (cells : Array Value)
    (hc : P.built t (parts.map fun (i, x) => (i, a.eval x)).toList = some cells) (h : wpListIn F n P ops Q rest (a.put o.dst (.agg cells)) w) : wpListIn F n P ops Q (o :: rest) a w := by
  refine wpListIn_plain hgd fun K hK => ?_
  unfold Oper.wpIn
  rw [Oper.semAt_eq _ _ _ (fun c h => by rw [ho] at h; cases h)]
  refine ⟨fun f hf => by simp [Oper.about, ho] at hf, ?_⟩
  unfold execOp
  simp only [ho, Sem.run_bind, run_build w t _ cells hc, Result.andThen_ok]
  exact hK _ _ h
end
theorem built26nk (n k : Int) : Tryd.prog.built 28 [(0, .int .i64 n), (1, .int .i64 k)] = some (ccells n k zbl).toArray := by kernel_rfl
/-- The bytes that a rule gives the edges that have come. -/
def pbF {N : Nat} (r : Nat → Nat → Int) (xs : List (Edg N)) : List Nat := xs.foldl (fun b x => b.set x.1.1 (r x.1.2.1 x.1.2.2).toNat) zbl
theorem pbF_snoc {N : Nat} (r : Nat → Nat → Int) (xs : List (Edg N)) (x : Edg N) : pbF r (xs ++ [x]) = (pbF r xs).set x.1.1 (r x.1.2.1 x.1.2.2).toNat := by simp [pbF]
theorem pbF_bys {N : Nat} {r : Nat → Nat → Int} (hr : ∀ x : Edg N, 0 ≤ r x.1.2.1 x.1.2.2 ∧ r x.1.2.1 x.1.2.2 < 256) (xs : List (Edg N)) : Bys (pbF r xs) := by
  unfold pbF
  suffices h : ∀ b, Bys b → Bys (xs.foldl (fun b x => b.set x.1.1 (r x.1.2.1 x.1.2.2).toNat) b) from h _ zbl_bys
  induction xs with
  | nil => intro b hb; exact hb
  | cons x xs ih => intro b hb; exact ih _ (hb.set _ _ (by have := hr x; omega))
def paintB (N : Nat) (r : Nat → Nat → Int) : List Nat := (eseq N).foldl (fun b t => b.set t.1 (r t.2.1 t.2.2).toNat) zbl
theorem pbF_eq {N : Nat} (r : Nat → Nat → Int) (xs : List (Edg N)) (h : xs.map Edg.v = eseq N) : pbF r xs = paintB N r := by
  unfold paintB pbF
  rw [← h, List.foldl_map]
  rfl
/-- A rule, as a function value: it answers for each edge, in every world in which all that lay in w lies as it lay. -/
def Rule (N : Nat) (g : Nat) (lb : Array Value) (r : Nat → Nat → Int) (w : World) : Prop :=
  ∀ (x : Edg N) (W : World), Below w.heap.size w W → Calls Tryd.prog g (#[.int .i64 (x.1.2.1 : Int), .int .i64 (x.1.2.2 : Int)] ++ lb) W fun e W' => e = .returned (.int .i64 (r x.1.2.1 x.1.2.2)) ∧ Below W.heap.size W W'
theorem keeps_below {B : Nat} {W W' : World} (h : Below W.heap.size W W') : KeepsFrom B W W' := ⟨h.size, fun k o _ hk _ => (h.block k (Array.getElem?_eq_some_iff.1 hk).1).trans hk⟩
def RelPt {N : Nat} (k : Int) (g : Nat) (lb : Array Value) (r : Nat → Nat → Int) (w : World) (pre : List (Edg N)) (W : World) : Prop :=
  Blk W w.heap.size #[.func (.func g) #[] lb] 94 ∧ Blk W (w.heap.size + 1) (ccells 0 0 zbl).toArray 28 ∧ Blk W (w.heap.size + 1 + 1) (ccells (N : Int) k (pbF r pre)).toArray 28 ∧ Below w.heap.size w W
end Go.Proofs.YtckffliiidgilaaDoor
/- ColouringOf: the program and its model. -/
namespace Go.Proofs.YtckffliiidgilaaDoor
set_option linter.unusedVariables false
set_option linter.unusedSimpArgs false
open Go Go.RowKit Go.Shelf
def coCode (n k : Int) (zs : List Int) : Int := if shapeB n k = true ∧ (zs.length : Int) = edg n ∧ allB zs k = true then 0 else 2
def coN (n k : Int) (zs : List Int) : Int := if coCode n k zs = 0 then n else 0
def coK (n k : Int) (zs : List Int) : Int := if coCode n k zs = 0 then k else 0
def coB (n k : Int) (zs : List Int) : List Nat := if coCode n k zs = 0 then putK zbl 0 zs zs.length else zbl
/-- What ColouringOf returns. -/
def coOut (n k : Int) (zs : List Int) : Value := .tuple #[.agg (ccells (coN n k zs) (coK n k zs) (coB n k zs)).toArray, .int .i64 (coCode n k zs)]
theorem coOut_bad {n k : Int} {zs : List Int} (h : ¬ (shapeB n k = true ∧ (zs.length : Int) = edg n ∧ allB zs k = true)) : coOut n k zs = .tuple #[.agg (ccells 0 0 zbl).toArray, .int .i64 2] := by
  have e : coCode n k zs = 2 := if_neg h
  simp [coOut, coN, coK, coB, e]
theorem coOut_good {n k : Int} {zs : List Int} (h : shapeB n k = true ∧ (zs.length : Int) = edg n ∧ allB zs k = true) : coOut n k zs = .tuple #[.agg (ccells n k (putK zbl 0 zs zs.length)).toArray, .int .i64 0] := by
  have e : coCode n k zs = 0 := if_pos h
  simp [coOut, coN, coK, coB, e]
theorem all_lt {zs : List Int} {k : Int} (h : allB zs k = true) (hk : k ≤ 4) : ∀ j, j < zs.length → 0 ≤ zs.getD j 0 ∧ zs.getD j 0 < 256 := fun j hj => by have := allB_get h hj; omega
theorem coB_bys (n k : Int) (zs : List Int) : Bys (coB n k zs) := by
  unfold coB
  split
  · rename_i h
    unfold coCode at h
    split at h
    · rename_i h2
      exact putK_bys zbl_bys 0 (all_lt h2.2.2 (shape_bd h2.1).2.2.2) _ (Nat.le_refl _)
    · omega
  · exact zbl_bys
theorem putK_range (zs : List Int) : ∀ m, putK zbl 0 zs m = (List.range m).foldl (fun b j => b.set j (zs.getD j 0).toNat) zbl
  | 0 => rfl
  | m + 1 => by rw [List.range_succ, List.foldl_append, ← putK_range zs m, putK, Nat.zero_add]; rfl
theorem eseq_mem {h : Nat} {t : Nat × Nat × Nat} (ht : t ∈ eseq h) : t.1 = eN t.2.2 + t.2.1 := by
  induction h with
  | zero => simp [eseq] at ht
  | succ h ih =>
    rw [eseq, List.mem_append] at ht
    rcases ht with ht | ht
    · exact ih ht
    · simp only [rowE, List.mem_map] at ht
      obtain ⟨m, _, rfl⟩ := ht
      rfl
theorem foldl_congr {α β : Type} {f g : β → α → β} : ∀ (l : List α) (b : β), (∀ x ∈ l, ∀ b, f b x = g b x) → l.foldl f b = l.foldl g b
  | [], _, _ => rfl
  | x :: l, b, h => by
    rw [List.foldl_cons, List.foldl_cons, h x (by simp) b]
    exact foldl_congr l _ (fun y hy => h y (by simp [hy]))
theorem paint_list (N : Nat) (zs : List Int) : paintB N (fun lo hi => zs.getD (eN hi + lo) 0) = putK zbl 0 zs (eN N) := by
  rw [putK_range, ← eseq_nums, List.foldl_map]
  unfold paintB
  exact foldl_congr _ _ (fun t ht b => by show b.set t.1 (zs.getD (eN t.2.2 + t.2.1) 0).toNat = _; rw [← eseq_mem ht])
theorem len_eN {N : Nat} {zs : List Int} (h : (zs.length : Int) = edg (N : Int)) : zs.length = eN N := by rw [← eN_edg] at h; omega
def Rel18 (n k : Int) (zs : List Int) (a : Option Addr) (w : World) (j : Nat) (wr : World) : Prop :=
  Blk wr w.heap.size (ccells 0 0 zbl).toArray 28 ∧ Blk wr (w.heap.size + 1) (ccells n k (putK zbl 0 zs j)).toArray 28 ∧ SlI wr a zs ∧ Below w.heap.size w wr
end Go.Proofs.YtckffliiidgilaaDoor
/- ColouringOf: the program's own text. -/
namespace Go.Proofs.YtckffliiidgilaaDoor
set_option linter.unusedVariables false
set_option linter.unusedSimpArgs false
open Go Go.RowKit Go.Shelf
theorem eix_eN {lo hi : Nat} (h : lo < hi) : eix (lo : Int) (hi : Int) = ((eN hi + lo : Nat) : Int) := by
  unfold eix
  rw [if_neg (by omega), Int.natCast_add, eN_edg]
theorem Below.drewN {B : Nat} {a w : World} (h : Below B a w) (n : Nat) : Below B a (w.drewN n) := ⟨h.1, h.2, h.3, h.4, h.5⟩
theorem SlI.drewN {w : World} {a : Option Addr} {zs : List Int} (h : SlI w a zs) (n : Nat) : SlI (w.drewN n) a zs := h
theorem edg_rng {zs : List Int} {k : Int} {N : Nat} (h : allB zs k = true) (hk : k ≤ 4) (hl : zs.length = eN N) (x : Edg N) : 0 ≤ zs.getD (eN x.1.2.2 + x.1.2.1) 0 ∧ zs.getD (eN x.1.2.2 + x.1.2.1) 0 < 256 := by
  obtain ⟨hx1, hx2, hx3⟩ := x.2
  have hx := x.lt
  exact all_lt h hk _ (by omega)
end Go.Proofs.YtckffliiidgilaaDoor
