/- My texts Base, Col, Types, Sl, SpecIs, ImplIs, Conv, Open, Edge, Tests, Given, ColourOf, Eq, Res, ChangeEdge, Lists, PutPoint, Own, in one. -/
import Derived.WalkKit
import Derived.Deep.MidRow
import Derived.Deep.WholeRow
import Derived.Deep.QuietTactic
import Derived.BigQuiet
import Derived.Test.YtidengcihakijaaProg
import Derived.Outline
import Derived.ProofKit
import Derived.OpenShut
import Derived.Carry
import Derived.StillTailTactics
/- Blocks of cells that a call owns, and whole rows loaded and stored: plain lemmas over the world, with no program in them. -/
namespace Go.Proofs.Ytidengcihakijaa
open Go Go.RowKit

theorem hidd {p : Prop} (h : p) : Hid p := h

/-- Block b of w is a row of the cells C that may be written. -/
def Blk (w : World) (b : Nat) (C : Array Value) (t : TypeId) : Prop := w.heap[b]? = some (.cells C t (0, 0))

theorem Blk.cell {w : World} {b : Nat} {C : Array Value} {t : TypeId} (h : Blk w b C t) {j : Nat} {v : Value} (hv : C[j]? = some v) : w.cell? ⟨b, j, none⟩ = some v := by
  rw [cell_of_row w b j C t (0, 0) h]; exact hv
theorem Blk.fro {w : World} {b : Nat} {C : Array Value} {t : TypeId} (h : Blk w b C t) (j : Nat) : w.frozen? ⟨b, j, none⟩ = false := frozen_of_row w b j C t h
theorem Blk.same {w : World} {b : Nat} {C : Array Value} {t : TypeId} (h : Blk w b C t) (j : Nat) (v : Value) : Blk (w.setCell ⟨b, j, none⟩ v) b (C.setIfInBounds j v) t := heap_setCell_same w b j C t v h
theorem Blk.other {w : World} {b : Nat} {C : Array Value} {t : TypeId} (h : Blk w b C t) (a : Addr) (v : Value) (hn : b ≠ a.block) : Blk (w.setCell a v) b C t := by
  unfold Blk; rw [heap_setCell_other w a b v hn]; exact h
theorem Blk.lt {w : World} {b : Nat} {C : Array Value} {t : TypeId} (h : Blk w b C t) : b < w.heap.size := by
  unfold Blk at h; exact (Array.getElem?_eq_some_iff.1 h).1
theorem Blk.alloc {w : World} {b : Nat} {C : Array Value} {t : TypeId} (h : Blk w b C t) (o : Obj) : Blk (w.alloc o) b C t := by
  unfold Blk; rw [Below.heap_alloc w o b h.lt]; exact h
theorem Blk.new (w : World) (C : Array Value) (t : TypeId) (b : Nat) (hb : b = w.heap.size) : Blk (w.alloc (.cells C t)) b C t := by subst hb; exact heap_alloc_new w _
theorem Blk.below {w w' : World} {B b : Nat} {C : Array Value} {t : TypeId} (h : Blk w b C t) (hb : Below B w w') (hl : b < B) : Blk w' b C t := by
  unfold Blk; rw [hb.block b hl]; exact h
theorem Blk.drew {w : World} {b : Nat} {C : Array Value} {t : TypeId} (h : Blk w b C t) : Blk w.drew b C t := h
theorem Blk.drewN {w : World} {b : Nat} {C : Array Value} {t : TypeId} (h : Blk w b C t) (n : Nat) : Blk (w.drewN n) b C t := h
theorem Blk.rowSame {w : World} {b : Nat} {C : Array Value} {t : TypeId} (h : Blk w b C t) (C' : Array Value) : Blk (w.setRow b C') b C' t := setRow_heap w b C C' t (0, 0) h
theorem Blk.rowOther {w : World} {b : Nat} {C : Array Value} {t : TypeId} (h : Blk w b C t) (g : Nat) (C' : Array Value) (hn : b ≠ g) : Blk (w.setRow g C') b C t := by
  unfold Blk; rw [setRow_other w g b C' hn]; exact h
theorem Blk.range {w : World} {b : Nat} {C : Array Value} {t : TypeId} (h : Blk w b C t) (o : Nat) (cs : List Value) (hc : ∀ j v, cs[j]? = some v → C[o + j]? = some v) : w.rangeAt b o cs :=
  fun j v hv => h.cell (hc j v hv)
theorem Blk.there {w : World} {b : Nat} {C : Array Value} {t : TypeId} (h : Blk w b C t) (o n : Nat) (hn : o + n ≤ C.size) : w.there b o n := fun j hj => by
  have hlt : o + j < C.size := by omega
  exact ⟨by rw [h.cell (Array.getElem?_eq_getElem hlt)]; rfl, h.fro _⟩

theorem below_setRow {B : Nat} {a w : World} (h : Below B a w) {g : Nat} (hp : B ≤ g) (C : Array Value) : Below B a (w.setRow g C) :=
  h.trans ⟨rfl, rfl, rfl, by simp, fun k hk => setRow_other w g k C (by omega)⟩
theorem below_setCells {B : Nat} {a : World} {b : Nat} (hp : B ≤ b) : ∀ (vs : List Value) (o : Nat) {w : World}, Below B a w → Below B a (w.setCells b o vs)
  | [], _, _, h => h
  | _ :: r, o, _, h => by rw [World.setCells]; exact below_setCells hp r (o + 1) (h.setCell hp _)
theorem below_drewN {B : Nat} {a w : World} (h : Below B a w) (n : Nat) : Below B a (w.drewN n) := ⟨h.os, h.tape, h.output, h.size, h.block⟩
/-- The cells from o on, set one by one. -/
def setFrom (C : Array Value) : Nat → List Value → Array Value
  | _, [] => C
  | o, v :: r => setFrom (C.setIfInBounds o v) (o + 1) r
theorem setFrom_size (vs : List Value) : ∀ (C : Array Value) (o : Nat), (setFrom C o vs).size = C.size := by
  induction vs with
  | nil => intro C o; rfl
  | cons v r ih => intro C o; rw [setFrom, ih]; simp
theorem setFrom_get (vs : List Value) : ∀ (C : Array Value) (o j : Nat), o + vs.length ≤ C.size → (setFrom C o vs)[j]? = if o ≤ j ∧ j < o + vs.length then vs[j - o]? else C[j]? := by
  induction vs with
  | nil => intro C o j _; rw [if_neg (by simp)]; rfl
  | cons v r ih =>
    intro C o j h
    simp only [List.length_cons] at h ⊢
    rw [setFrom, ih _ _ _ (by simp; omega)]
    by_cases h1 : o + 1 ≤ j ∧ j < o + 1 + r.length
    · rw [if_pos h1, if_pos (by omega)]
      obtain ⟨m, rfl⟩ : ∃ m, j = o + 1 + m := ⟨j - (o + 1), by omega⟩
      rw [show o + 1 + m - (o + 1) = m by omega, show o + 1 + m - o = m + 1 by omega]; rfl
    · rw [if_neg h1, Array.getElem?_setIfInBounds]
      by_cases h2 : o = j
      · subst h2; rw [if_pos rfl, if_pos (by omega), if_pos (by omega)]; simp
      · rw [if_neg h2, if_neg (by omega)]
theorem Blk.cellsSame {b : Nat} {t : TypeId} (vs : List Value) : ∀ {w : World} {C : Array Value} (o : Nat), Blk w b C t → Blk (w.setCells b o vs) b (setFrom C o vs) t := by
  induction vs with
  | nil => intro w C o h; exact h
  | cons v r ih => intro w C o h; rw [World.setCells]; exact ih (o + 1) (h.same o v)
theorem Blk.cellsOther {b g : Nat} {C : Array Value} {t : TypeId} (hn : b ≠ g) (vs : List Value) : ∀ {w : World} (o : Nat), Blk w b C t → Blk (w.setCells g o vs) b C t := by
  induction vs with
  | nil => intro w o h; exact h
  | cons v r ih => intro w o h; rw [World.setCells]; exact ih (o + 1) (h.other _ _ hn)

/-! ### Bytes and colourings as cells -/
def bcells (bs : List Nat) : List Value := bs.map fun (x : Nat) => Value.int .u8 (x : Int)
theorem bcells_len (bs : List Nat) : (bcells bs).length = bs.length := by simp [bcells]
theorem bcells_get (bs : List Nat) (k : Nat) (h : k < bs.length) : (bcells bs)[k]? = some (.int .u8 (bs[k]'h : Nat)) := by simp [bcells, h]
theorem bcells_one (bs : List Nat) : (bcells bs).toArray.all (·.oneCell') = true := by
  refine Array.all_eq_true_iff_forall_mem.2 (fun v hv => ?_)
  simp only [List.mem_toArray, bcells, List.mem_map] at hv
  obtain ⟨x, _, rfl⟩ := hv; rfl
def zbl : List Nat := List.replicate 136 0
theorem zbl_len : zbl.length = 136 := by simp [zbl]
/-- The cells of a colouring: the points, the colours, the edges. -/
def ccells (n k : Int) (bs : List Nat) : List Value := .int .i64 n :: .int .i64 k :: bcells bs
theorem ccells_len (n k : Int) (bs : List Nat) : (ccells n k bs).length = bs.length + 2 := by simp [ccells, bcells_len]
theorem ccells_one (n k : Int) (bs : List Nat) : (ccells n k bs).toArray.all (·.oneCell') = true := by
  have := bcells_one bs
  simp [ccells, Value.oneCell'] at this ⊢; exact this
theorem ccells_get (n k : Int) (bs : List Nat) (j : Nat) (h : j < bs.length) : (ccells n k bs).toArray[2 + j]? = some (.int .u8 (bs[j]'h : Nat)) := by
  rw [show 2 + j = j + 1 + 1 by omega]
  simp only [ccells, List.getElem?_toArray, List.getElem?_cons_succ]
  exact bcells_get bs j h
theorem ccells_set (n k : Int) (bs : List Nat) (j : Nat) (x : Nat) : (ccells n k bs).toArray.setIfInBounds (2 + j) (.int .u8 (x : Int)) = (ccells n k (bs.set j x)).toArray := by
  rw [show 2 + j = j + 1 + 1 by omega]
  simp [ccells, bcells, List.map_set]
theorem ccells_set0 (n n' k : Int) (bs : List Nat) : (ccells n k bs).toArray.setIfInBounds 0 (.int .i64 n') = (ccells n' k bs).toArray := by simp [ccells]
theorem ccells_set1 (n k k' : Int) (bs : List Nat) : (ccells n k bs).toArray.setIfInBounds 1 (.int .i64 k') = (ccells n k' bs).toArray := by simp [ccells]
theorem ccells_edges (n k : Int) (bs cs : List Nat) (h : bs.length = cs.length) : setFrom (ccells n k bs).toArray 2 (bcells cs) = (ccells n k cs).toArray := by
  apply Array.ext_getElem?
  intro j
  rw [setFrom_get _ _ _ _ (by simp [ccells_len, bcells_len]; omega)]
  by_cases h1 : 2 ≤ j ∧ j < 2 + (bcells cs).length
  · rw [if_pos h1]
    obtain ⟨m, rfl⟩ : ∃ m, j = m + 2 := ⟨j - 2, by omega⟩
    simp [ccells]
  · rw [if_neg h1]
    rw [bcells_len] at h1
    match j, h1 with
    | 0, _ => simp [ccells]
    | 1, _ => simp [ccells]
    | m + 2, h1 => rw [Array.getElem?_eq_none (by simp [ccells_len]; omega), Array.getElem?_eq_none (by simp [ccells_len]; omega)]
theorem bcells_inj {a b : List Nat} (h : bcells a = bcells b) : a = b := by
  induction a generalizing b with
  | nil => cases b with
    | nil => rfl
    | cons y b => simp [bcells] at h
  | cons x a ih => cases b with
    | nil => simp [bcells] at h
    | cons y b =>
      simp only [bcells, List.map_cons, List.cons.injEq, Value.int.injEq, true_and] at h
      rw [show x = y by omega, ih h.2]
/-- Cells that are the bytes up to k. -/
def Cop (bs : List Nat) (k : Nat) (C : Array Value) : Prop := C.size = 136 ∧ ∀ j, j < k → C[j]? = (bcells bs)[j]?
theorem Cop.step {bs : List Nat} {k : Nat} {C : Array Value} (h : Cop bs k C) (hk : k < 136) (v : Value) (hv : (bcells bs)[k]? = some v) : Cop bs (k + 1) (C.setIfInBounds k v) := by
  refine ⟨by simp [h.1], fun j hj => ?_⟩
  rw [Array.getElem?_setIfInBounds]
  by_cases e : k = j
  · subst e; rw [if_pos rfl, if_pos (by rw [h.1]; exact hk), hv]
  · rw [if_neg e]; exact h.2 j (by omega)
theorem Cop.done {bs : List Nat} {C : Array Value} (hl : bs.length = 136) (h : Cop bs 136 C) : C = (bcells bs).toArray := by
  apply Array.ext_getElem?
  intro j
  by_cases hj : j < 136
  · rw [h.2 j hj]; simp
  · rw [Array.getElem?_eq_none (by rw [h.1]; omega), Array.getElem?_eq_none (by simp [bcells_len, hl]; omega)]
end Go.Proofs.Ytidengcihakijaa
/- What a colouring is, as plain arithmetic over its points, its colours and its 136 bytes. -/
namespace Go.Proofs.Ytidengcihakijaa
open Go Go.RowKit

/-- 136 bytes. -/
structure Bys (bs : List Nat) : Prop where
  len : bs.length = 136
  lt : ∀ j, bs.getD j 0 < 256
theorem zbl_get (j : Nat) : zbl.getD j 0 = 0 := by
  unfold zbl
  rw [List.getD_eq_getElem?_getD, List.getElem?_replicate]
  split <;> rfl
theorem zbl_bys : Bys zbl := ⟨zbl_len, fun j => by rw [zbl_get]; omega⟩
theorem Bys.set {bs : List Nat} (h : Bys bs) (j x : Nat) (hx : x < 256) : Bys (bs.set j x) := ⟨by simp [h.len], fun i => by
  have h1 := h.lt i
  simp only [List.getD] at h1 ⊢
  rw [List.getElem?_set]
  split
  · split
    · exact hx
    · simp
  · exact h1⟩
theorem Bys.get {bs : List Nat} (h : Bys bs) {j : Nat} (hj : j < 136) : (bcells bs)[j]? = some (.int .u8 ((bs.getD j 0 : Nat) : Int)) := by
  have hl : j < bs.length := by rw [h.len]; exact hj
  rw [bcells_get bs j hl]; simp [List.getD, hl]
theorem Bys.cget {bs : List Nat} (h : Bys bs) (n k : Int) {j : Nat} (hj : j < 136) : (ccells n k bs).toArray[2 + j]? = some (.int .u8 ((bs.getD j 0 : Nat) : Int)) := by
  have hl : j < bs.length := by rw [h.len]; exact hj
  rw [ccells_get n k bs j hl]; simp [List.getD, hl]
theorem Bys.ext {a b : List Nat} (ha : Bys a) (hb : Bys b) (h : ∀ j, j < 136 → a.getD j 0 = b.getD j 0) : a = b := by
  apply List.ext_getElem?
  intro j
  by_cases hj : j < 136
  · have h1 := h j hj
    have la : j < a.length := by rw [ha.len]; exact hj
    have lb : j < b.length := by rw [hb.len]; exact hj
    simp only [List.getD, List.getElem?_eq_getElem la, List.getElem?_eq_getElem lb, Option.getD_some] at h1 ⊢
    rw [h1]
  · rw [List.getElem?_eq_none (by rw [ha.len]; omega), List.getElem?_eq_none (by rw [hb.len]; omega)]

/-- The number of edges between n points. -/
def edg (n : Int) : Int := n * (n - 1) / 2
theorem mul_bd {n : Int} (h1 : 1 ≤ n) (h2 : n ≤ 17) : 0 ≤ n * (n - 1) ∧ n * (n - 1) ≤ 272 :=
  ⟨Int.mul_nonneg (by omega) (by omega), Int.le_trans (Int.mul_le_mul h2 (show n - 1 ≤ 16 by omega) (by omega) (by omega)) (by omega)⟩
theorem edg_bd {n : Int} (h1 : 1 ≤ n) (h2 : n ≤ 17) : 0 ≤ edg n ∧ edg n ≤ 136 := by
  have := mul_bd h1 h2
  unfold edg; omega

def shapeB (n k : Int) : Bool := decide (1 ≤ n) && decide (n ≤ 17) && (decide (1 ≤ k) && decide (k ≤ 4))
theorem shape_mk {n k : Int} (h1 : 1 ≤ n) (h2 : n ≤ 17) (h3 : 1 ≤ k) (h4 : k ≤ 4) : shapeB n k = true := by simp [shapeB, h1, h2, h3, h4]
theorem shape_bd {n k : Int} (h : shapeB n k = true) : 1 ≤ n ∧ n ≤ 17 ∧ 1 ≤ k ∧ k ≤ 4 := by
  simp [shapeB] at h; omega
theorem shape_no {n k : Int} (h : shapeB n k = false) : n < 1 ∨ 17 < n ∨ k < 1 ∨ 4 < k := by
  simp only [shapeB, Bool.and_eq_false_iff, decide_eq_false_iff_not] at h; omega

/-- Is the byte at place j as a colouring has it? -/
def goodAt (n k : Int) (bs : List Nat) (j : Nat) : Bool := if (j : Int) < edg n then decide (((bs.getD j 0 : Nat) : Int) < k) else bs.getD j 0 == 0
theorem good_lo {n k : Int} {bs : List Nat} {j : Nat} (h : (j : Int) < edg n) (hv : ((bs.getD j 0 : Nat) : Int) < k) : goodAt n k bs j = true := by
  unfold goodAt; rw [if_pos h]; simpa using hv
theorem good_hi {n k : Int} {bs : List Nat} {j : Nat} (h : edg n ≤ (j : Int)) (hv : bs.getD j 0 = 0) : goodAt n k bs j = true := by
  unfold goodAt; rw [if_neg (by omega)]; simpa using hv
theorem bad_lo {n k : Int} {bs : List Nat} {j : Nat} (h : (j : Int) < edg n) (hv : k ≤ ((bs.getD j 0 : Nat) : Int)) : goodAt n k bs j = false := by
  unfold goodAt; rw [if_pos h]; simpa using hv
theorem bad_hi {n k : Int} {bs : List Nat} {j : Nat} (h : edg n ≤ (j : Int)) (hv : bs.getD j 0 ≠ 0) : goodAt n k bs j = false := by
  unfold goodAt; rw [if_neg (by omega)]; simpa using hv
/-- Is it a colouring? -/
def isCol (n k : Int) (bs : List Nat) : Bool := shapeB n k && (List.range 136).all (goodAt n k bs)
theorem isCol_yes {n k : Int} {bs : List Nat} (hs : shapeB n k = true) (h : ∀ j, j < 136 → goodAt n k bs j = true) : isCol n k bs = true := by
  unfold isCol; rw [hs, Bool.true_and, List.all_eq_true]; intro j hj; exact h j (by simpa using hj)
theorem isCol_shape {n k : Int} {bs : List Nat} (hs : shapeB n k = false) : isCol n k bs = false := by
  unfold isCol; rw [hs]; rfl
theorem isCol_bad {n k : Int} {bs : List Nat} {j : Nat} (hj : j < 136) (h : goodAt n k bs j = false) : isCol n k bs = false := by
  unfold isCol
  rw [Bool.and_eq_false_iff]; right
  rw [List.all_eq_false]; exact ⟨j, by simpa using hj, by rw [h]; simp⟩
theorem isCol_good {n k : Int} {bs : List Nat} (h : isCol n k bs = true) : shapeB n k = true ∧ ∀ j, j < 136 → goodAt n k bs j = true := by
  unfold isCol at h
  rw [Bool.and_eq_true, List.all_eq_true] at h
  exact ⟨h.1, fun j hj => h.2 j (by simpa using hj)⟩
end Go.Proofs.Ytidengcihakijaa
/- Facts on the program's types, each reckoned by the kernel. -/
namespace Go.Proofs.Ytidengcihakijaa
open Go Go.RowKit
theorem info22 : (Try.prog.info? 29).map (fun i => (i.zero, i.size)) = some (some (.agg (bcells zbl).toArray), 136) := by kernel_rfl
theorem zero22 : ∀ w, (zeroValue 29).run Try.prog w = .ok (.agg (bcells zbl).toArray) w := (zero_of_info info22).1
theorem size22 : (Try.prog.info? 29).map (·.size) = some 136 := (zero_of_info info22).2
theorem info26 : (Try.prog.info? 32).map (fun i => (i.zero, i.size)) = some (some (.agg (ccells 0 0 zbl).toArray), 138) := by kernel_rfl
theorem zero26 : ∀ w, (zeroValue 32).run Try.prog w = .ok (.agg (ccells 0 0 zbl).toArray) w := (zero_of_info info26).1
theorem size26 : (Try.prog.info? 32).map (·.size) = some 138 := (zero_of_info info26).2
theorem info24 : (Try.prog.info? 31).map (fun i => (i.zero, i.size)) = some (some (.agg (ccells 0 0 zbl).toArray), 138) := by kernel_rfl
theorem size24 : (Try.prog.info? 31).map (·.size) = some 138 := (zero_of_info info24).2
end Go.Proofs.Ytidengcihakijaa
namespace Go.Proofs.Ytidengcihakijaa
open Go Go.RowKit
theorem slice22_hi (b o E : Nat) (w : World) (h : E ≤ 136) : (Instr.sliceAt 29 (.pointer (some ⟨b, o, none⟩)) none (some (.int .i64 E)) none).run Try.prog w = .ok (.slice (some ⟨b, o, none⟩) E 136) w := by
  simp [Instr.sliceAt, Instr.sureAddr, Instr.sliceBounds, Instr.sliceBound, Sem.run_bind, run_underlying Try.underlying29, asIntOf, h, Result.andThen, Addr.add]
theorem slice22_lo (b o E : Nat) (w : World) (h : E ≤ 136) : ∃ a, (E < 136 → a = o + E) ∧ (Instr.sliceAt 29 (.pointer (some ⟨b, o, none⟩)) (some (.int .i64 E)) none none).run Try.prog w = .ok (.slice (some ⟨b, a, none⟩) (136 - E) (136 - E)) w := by
  by_cases e : E = 136
  · subst e
    exact ⟨o, by omega, by simp [Instr.sliceAt, Instr.sureAddr, Instr.sliceBounds, Instr.sliceBound, Sem.run_bind, run_underlying Try.underlying29, asIntOf, Result.andThen]⟩
  · refine ⟨o + E, fun _ => rfl, ?_⟩
    have e2 : ¬ 136 = E := fun h => e h.symm
    by_cases z : E = 0
    · subst z
      simp [Instr.sliceAt, Instr.sureAddr, Instr.sliceBounds, Instr.sliceBound, Sem.run_bind, run_underlying Try.underlying29, asIntOf, Result.andThen, Addr.add]
    · simp [Instr.sliceAt, Instr.sureAddr, Instr.sliceBounds, Instr.sliceBound, Sem.run_bind, run_underlying Try.underlying29, asIntOf, h, e2, z, Result.andThen, Addr.add]
end Go.Proofs.Ytidengcihakijaa
namespace Go.Proofs.Ytidengcihakijaa
open Go Go.RowKit
set_option maxRecDepth 100000 in
set_option maxHeartbeats 400000 in
theorem l01Is_no (n k : Int) (C : Array Value) (w : World) (hC0 : C[0]? = some (.int .i64 n)) (hC1 : C[1]? = some (.int .i64 k)) (h : n < 1 ∨ 17 < n ∨ k < 1 ∨ 4 < k) :
    Calls Try.prog 23 #[.agg C] w fun e w' => e = .returned (.bool false) ∧ Below w.heap.size w w' := by
  by_cases h1 : n < 1
  · clear h
    go_enter Try.func23, Try.ntmps23
    go_wp2
    go_ret
    exact ⟨rfl, (Below.refl _ _).alloc (Nat.le_refl _) _⟩
  · by_cases h2 : 17 < n
    · clear h
      have h1' : 1 ≤ n := by omega
      go_enter Try.func23, Try.ntmps23
      go_wp2
      go_ret
      exact ⟨rfl, (Below.refl _ _).alloc (Nat.le_refl _) _⟩
    · have h1' : 1 ≤ n := by omega
      have h2' : n ≤ 17 := by omega
      by_cases h3 : k < 1
      · clear h
        go_enter Try.func23, Try.ntmps23
        go_wp2
        go_ret
        exact ⟨rfl, (Below.refl _ _).alloc (Nat.le_refl _) _⟩
      · have h3' : 1 ≤ k := by omega
        have h4 : decide (k ≤ 4) = false := by simp; omega
        clear h
        go_enter Try.func23, Try.ntmps23
        go_wp2
        go_ret
        exact ⟨rfl, (Below.refl _ _).alloc (Nat.le_refl _) _⟩
theorem in49_yes (n lo hi : Int) (w : World) (h1 : lo ≤ n) (h2 : n ≤ hi) : Calls Try.prog 44 #[.int .i64 n, .int .i64 lo, .int .i64 hi] w fun e w' => e = .returned (.bool true) ∧ w = w' := by
  go_enter Try.func44, Try.ntmps44
  go_wp2
  go_ret
  exact ⟨rfl, rfl⟩
def Rel45 (w : World) (n k : Int) (bs : List Nat) (C : Array Value) (j : Nat) (wr : World) : Prop :=
  Blk wr w.heap.size C 32 ∧ (∀ i, i < j → goodAt n k bs i = true) ∧ Below w.heap.size w wr
set_option maxRecDepth 100000 in
set_option maxHeartbeats 1000000 in
theorem l01Is_any (n k : Int) (bs : List Nat) (hb : Bys bs) (w : World) :
    Calls Try.prog 23 #[.agg (ccells n k bs).toArray] w fun e w' => e = .returned (.bool (isCol n k bs)) ∧ Below w.heap.size w w' := by
  obtain ⟨C, hC⟩ : ∃ C, C = (ccells n k bs).toArray := ⟨_, rfl⟩
  have hC0 : C[0]? = some (.int .i64 n) := by rw [hC]; rfl
  have hC1 : C[1]? = some (.int .i64 k) := by rw [hC]; rfl
  have hCg : ∀ j, j < 136 → C[2 + j]? = some (.int .u8 ((bs.getD j 0 : Nat) : Int)) := fun j hj => by rw [hC]; exact hb.cget n k hj
  rw [← hC]
  have HC := hidd hC
  have HCg := hidd hCg
  clear hC hCg
  by_cases hs : shapeB n k = true
  · obtain ⟨h1, h2, h3, h4⟩ := shape_bd hs
    have HS := hidd hs
    clear hs
    have hm := mul_bd h1 h2
    obtain ⟨hm0, hm1⟩ := hm
    have he := edg_bd h1 h2
    obtain ⟨he0, he1⟩ := he
    have HE := hidd (show edg n = n * (n - 1) / 2 from rfl)
    go_enter Try.func23, Try.ntmps23
    go_wp2_with (go_at_call 44; refine (in49_yes _ _ _ _ (by omega) (by omega)).mono ?_; rintro e w' ⟨rfl, rfl⟩)
    go_loopw [4] (fun e wr => ∃ j : Nat, j ≤ 136 ∧ e = .int .i64 j ∧ Rel45 w n k bs C j wr) (fun e _ => 136 - (intOf e).toNat)
    case atStart =>
      exact ⟨0, by omega, rfl, Blk.new _ _ _ _ rfl, fun i hi => absurd hi (by omega), (Below.refl _ _).alloc (Nat.le_refl _) _⟩
    case round =>
      obtain ⟨j, hj, rfl, HR⟩ := hrel
      have hw0 := HR.1.cell hC0
      have hw1 := HR.1.cell hC1
      by_cases hlt : j < 136
      · have hw2 := HR.1.cell (HCg.out j hlt)
        have hx256 := hb.lt j
        obtain ⟨x, hx⟩ : ∃ x, x = bs.getD j 0 := ⟨_, rfl⟩
        rw [← hx] at hw2 hx256
        have HX := hidd hx
        clear hx
        have hwr : IntKind.i64.wrap (x : Int) = x := IntWalk.i64_in _ (by omega)
        have HRR := hidd HR
        clear HR
        by_cases hje : (j : Int) < n * (n - 1) / 2
        · by_cases hv : (x : Int) < k
          · have hd : decide (k ≤ (x : Int)) = false := by simp; omega
            have hd2 : decide (n * (n - 1) / 2 ≤ (j : Int)) = false := by simp; omega
            have hg := hidd (good_lo (n := n) (k := k) (bs := bs) (j := j) (by rw [HE.out]; exact hje) (by rw [← HX.out]; exact hv))
            go_wp2
            go_quiet (fail)
            go_wp2
            go_roundw
            case rel => exact ⟨j + 1, by omega, by go_num, HRR.out.1.drewN _, fun i hi => by
              by_cases e : i = j
              · subst e; exact hg.out
              · exact HRR.out.2.1 i (by omega), below_drewN HRR.out.2.2 _⟩
            case measure => simp [intOf]; omega
          · have hd : decide (k ≤ (x : Int)) = true := by simp; omega
            have hg := hidd (isCol_bad (n := n) (k := k) (bs := bs) hlt (bad_lo (by rw [HE.out]; exact hje) (by rw [← HX.out]; omega)))
            go_wp2
            go_quiet (fail)
            go_wp2
            go_ret
            exact ⟨by rw [hg.out]; rfl, below_drewN HRR.out.2.2 _⟩
        · have hd1 : decide ((j : Int) < n * (n - 1) / 2) = false := by simp; omega
          have hd2 : decide (n * (n - 1) / 2 ≤ (j : Int)) = true := by simp; omega
          by_cases hv : x = 0
          · have hg := hidd (good_hi (n := n) (k := k) (bs := bs) (j := j) (by rw [HE.out]; omega) (by rw [← HX.out]; exact hv))
            have hz : ((x : Int) != 0) = false := by subst hv; rfl
            clear hv
            go_wp2
            go_quiet (fail)
            go_wp2
            go_roundw
            case rel => exact ⟨j + 1, by omega, by go_num, HRR.out.1.drewN _, fun i hi => by
              by_cases e : i = j
              · subst e; exact hg.out
              · exact HRR.out.2.1 i (by omega), below_drewN HRR.out.2.2 _⟩
            case measure => simp [intOf]; omega
          · have hg := hidd (isCol_bad (n := n) (k := k) (bs := bs) hlt (bad_hi (by rw [HE.out]; omega) (by rw [← HX.out]; omega)))
            have hz : ((x : Int) != 0) = true := by rw [bne_iff_ne]; omega
            go_wp2
            go_quiet (fail)
            go_wp2
            go_ret
            exact ⟨by rw [hg.out]; rfl, below_drewN HRR.out.2.2 _⟩
      · have hj6 : j = 136 := by omega
        subst hj6
        have hg := hidd (isCol_yes HS.out HR.2.1)
        go_wp2
        go_ret
        exact ⟨by rw [hg.out]; rfl, HR.2.2⟩
  · have hs' : shapeB n k = false := by simpa using hs
    rw [isCol_shape hs']
    exact l01Is_no n k C w hC0 hC1 (shape_no hs')
end Go.Proofs.Ytidengcihakijaa
namespace Go.Proofs.Ytidengcihakijaa
open Go Go.RowKit
theorem shape47_no (n k : Int) (w : World) (h : n < 1 ∨ 17 < n ∨ k < 1 ∨ 4 < k) :
    Calls Try.prog 47 #[.int .i64 n, .int .i64 k] w fun e w' => e = .returned (.bool false) ∧ w = w' := by
  by_cases h1 : n < 1
  · clear h
    go_enter Try.func47, Try.ntmps47
    go_wp2
    go_ret
    exact ⟨rfl, rfl⟩
  · have h1' : 1 ≤ n := by omega
    by_cases h2 : 17 < n
    · clear h
      go_enter Try.func47, Try.ntmps47
      go_wp2
      go_ret
      exact ⟨rfl, rfl⟩
    · have h2' : n ≤ 17 := by omega
      by_cases h3 : k < 1
      · clear h
        go_enter Try.func47, Try.ntmps47
        go_wp2
        go_ret
        exact ⟨rfl, rfl⟩
      · have h3' : 1 ≤ k := by omega
        have h4 : decide (k ≤ 4) = false := by simp; omega
        clear h
        go_enter Try.func47, Try.ntmps47
        go_wp2
        go_ret
        exact ⟨rfl, rfl⟩
theorem shape47_yes (n k : Int) (w : World) (h1 : 1 ≤ n) (h2 : n ≤ 17) (h3 : 1 ≤ k) (h4 : k ≤ 4) :
    Calls Try.prog 47 #[.int .i64 n, .int .i64 k] w fun e w' => e = .returned (.bool true) ∧ w = w' := by
  go_enter Try.func47, Try.ntmps47
  go_wp2
  go_ret
  exact ⟨rfl, rfl⟩
theorem edge48 (n : Int) (w : World) (h1 : 1 ≤ n) (h2 : n ≤ 17) :
    Calls Try.prog 48 #[.int .i64 n] w fun e w' => e = .returned (.int .i64 (edg n)) ∧ w = w' := by
  have hm := mul_bd h1 h2
  obtain ⟨hm0, hm1⟩ := hm
  go_enter Try.func48, Try.ntmps48
  go_wp2
  go_ret
  exact ⟨rfl, rfl⟩
theorem implIs_no (n k : Int) (C : Array Value) (w : World) (hC0 : C[0]? = some (.int .i64 n)) (hC1 : C[1]? = some (.int .i64 k)) (h : n < 1 ∨ 17 < n ∨ k < 1 ∨ 4 < k) :
    Calls Try.prog 28 #[.agg C] w fun e w' => e = .returned (.bool false) ∧ Below w.heap.size w w' := by
  have H := hidd h
  clear h
  go_enter Try.func28, Try.ntmps28
  go_wp2_with (go_at_call 47; refine (shape47_no _ _ _ H.out).mono ?_; rintro e w' ⟨rfl, rfl⟩)
  go_ret
  exact ⟨rfl, (Below.refl _ _).alloc (Nat.le_refl _) _⟩
def RelA17 (w : World) (n k : Int) (bs : List Nat) (C : Array Value) (j : Nat) (wr : World) : Prop :=
  Blk wr w.heap.size C 32 ∧ (∀ i, i < j → goodAt n k bs i = true) ∧ Below w.heap.size w wr
set_option maxRecDepth 100000 in
set_option maxHeartbeats 1000000 in
theorem implIs_any (n k : Int) (bs : List Nat) (hb : Bys bs) (w : World) :
    Calls Try.prog 28 #[.agg (ccells n k bs).toArray] w fun e w' => e = .returned (.bool (isCol n k bs)) ∧ Below w.heap.size w w' := by
  obtain ⟨C, hC⟩ : ∃ C, C = (ccells n k bs).toArray := ⟨_, rfl⟩
  have hC0 : C[0]? = some (.int .i64 n) := by rw [hC]; rfl
  have hC1 : C[1]? = some (.int .i64 k) := by rw [hC]; rfl
  have hCg : ∀ j, j < 136 → C[2 + j]? = some (.int .u8 ((bs.getD j 0 : Nat) : Int)) := fun j hj => by rw [hC]; exact hb.cget n k hj
  rw [← hC]
  have HC := hidd hC
  have HCg := hidd hCg
  clear hC hCg
  by_cases hs : shapeB n k = true
  · obtain ⟨h1, h2, h3, h4⟩ := shape_bd hs
    have HS := hidd hs
    clear hs
    have he := edg_bd h1 h2
    obtain ⟨E, hE⟩ := Int.eq_ofNat_of_zero_le he.1
    have hE1 : E ≤ 136 := by omega
    have HE := hidd hE
    clear he
    rw [show edg n = (E : Int) from hE] at hE
    clear hE
    have hsl1 := fun b o w => slice22_hi b o E w hE1
    go_enter Try.func28, Try.ntmps28
    go_wp2_with (first | (go_at_call 47; refine (shape47_yes _ _ _ (by omega) (by omega) (by omega) (by omega)).mono ?_; rintro e w' ⟨rfl, rfl⟩) | (go_at_call 48; refine (edge48 _ _ (by omega) (by omega)).mono ?_; rintro e w' ⟨rfl, rfl⟩; rw [HE.out]))
    go_loopw [21] (fun e wr => ∃ j : Nat, j ≤ E ∧ e = .int .i64 j ∧ RelA17 w n k bs C j wr) (fun e _ => E - (intOf e).toNat)
    case atStart =>
      exact ⟨0, by omega, rfl, Blk.new _ _ _ _ rfl, fun i hi => absurd hi (by omega), (Below.refl _ _).alloc (Nat.le_refl _) _⟩
    case round =>
      obtain ⟨j, hj, rfl, HR⟩ := hrel
      have hw1 := HR.1.cell hC1
      by_cases hlt : j < E
      · have hw2 := HR.1.cell (HCg.out j (by omega))
        have hx256 := hb.lt j
        obtain ⟨x, hx⟩ : ∃ x, x = bs.getD j 0 := ⟨_, rfl⟩
        rw [← hx] at hw2 hx256
        have HX := hidd hx
        clear hx
        have hwr : IntKind.i64.wrap (x : Int) = x := IntWalk.i64_in _ (by omega)
        have HRR := hidd HR
        clear HR
        by_cases hv : (x : Int) < k
        · have hd : decide (k ≤ (x : Int)) = false := by simp; omega
          have hg := hidd (good_lo (n := n) (k := k) (bs := bs) (j := j) (by rw [HE.out]; omega) (by rw [← HX.out]; exact hv))
          go_wp2
          go_roundw
          case rel => exact ⟨j + 1, by omega, by go_num, HRR.out.1, fun i hi => by
            by_cases e : i = j
            · subst e; exact hg.out
            · exact HRR.out.2.1 i (by omega), HRR.out.2.2⟩
          case measure => simp [intOf]; omega
        · have hd : decide (k ≤ (x : Int)) = true := by simp; omega
          have hg := hidd (isCol_bad (n := n) (k := k) (bs := bs) (show j < 136 by omega) (bad_lo (by rw [HE.out]; omega) (by rw [← HX.out]; omega)))
          go_wp2
          go_ret
          exact ⟨by rw [hg.out]; rfl, HRR.out.2.2⟩
      · have hjE : j = E := by omega
        subst hjE
        obtain ⟨wo, rfl⟩ : ∃ wo : World, wo = wr := ⟨_, rfl⟩
        have HRR := hidd HR
        obtain ⟨p, hp, hsl⟩ := slice22_lo w.heap.size 2 j wo hE1
        have HP := hidd hp
        clear hp HR hw1
        go_wp2
        go_loopw [35] (fun e wr => ∃ i : Nat, i ≤ 136 - j ∧ e = .int .i64 i ∧ RelA17 w n k bs C (j + i) wr) (fun e _ => 136 - j - (intOf e).toNat)
        case atStart => exact ⟨0, by omega, rfl, HRR.out⟩
        case round =>
          obtain ⟨i, hi, rfl, HR2⟩ := hrel
          by_cases hlt2 : i < 136 - j
          · have hw2 := HR2.1.cell (HCg.out (j + i) (by omega))
            obtain rfl := HP.out (by omega)
            rw [show 2 + (j + i) = 2 + j + i by omega] at hw2
            obtain ⟨x, hx⟩ : ∃ x, x = bs.getD (j + i) 0 := ⟨_, rfl⟩
            rw [← hx] at hw2
            have HX := hidd hx
            clear hx
            have HRR2 := hidd HR2
            clear HR2
            by_cases hv : x = 0
            · have hg := hidd (good_hi (n := n) (k := k) (bs := bs) (j := j + i) (by rw [HE.out]; omega) (by rw [← HX.out]; exact hv))
              have hz : ((x : Int) != 0) = false := by subst hv; rfl
              clear hv
              go_wp2
              go_roundw
              case rel => exact ⟨i + 1, by omega, by go_num, HRR2.out.1, fun m hm => by
                by_cases e : m = j + i
                · subst e; exact hg.out
                · exact HRR2.out.2.1 m (by omega), HRR2.out.2.2⟩
              case measure => simp [intOf]; omega
            · have hg := hidd (isCol_bad (n := n) (k := k) (bs := bs) (show j + i < 136 by omega) (bad_hi (by rw [HE.out]; omega) (by rw [← HX.out]; omega)))
              have hz : ((x : Int) != 0) = true := by rw [bne_iff_ne]; omega
              go_wp2
              go_ret
              exact ⟨by rw [hg.out]; rfl, HRR2.out.2.2⟩
          · have hj6 : j + i = 136 := by omega
            rw [hj6] at HR2
            have hg := hidd (isCol_yes HS.out HR2.2.1)
            go_wp2
            go_ret
            exact ⟨by rw [hg.out]; rfl, HR2.2.2⟩
  · have hs' : shapeB n k = false := by simpa using hs
    rw [isCol_shape hs']
    exact implIs_no n k C w hC0 hC1 (shape_no hs')
end Go.Proofs.Ytidengcihakijaa
namespace Go.Proofs.Ytidengcihakijaa
open Go Go.RowKit
def Rel46 (bs : List Nat) (w : World) (k : Nat) (C : Array Value) (wr : World) : Prop := Blk wr w.heap.size (bcells bs).toArray 29 ∧ Blk wr (w.heap.size + 1) (bcells zbl).toArray 29 ∧ Blk wr (w.heap.size + 1 + 1) C 29 ∧ Cop bs k C ∧ Below w.heap.size w wr
set_option maxRecDepth 100000 in
set_option maxHeartbeats 400000 in
theorem toByte_any (bs : List Nat) (w : World) (hb : Bys bs) :
    Calls Try.prog 27 #[.agg (bcells bs).toArray] w fun e w' => e = .returned (.agg (bcells bs).toArray) ∧ Below w.heap.size w w' := by
  have Hz := zero22
  go_enter Try.func27, Try.ntmps27
  go_wp2
  go_loopw [4] (fun i wr => ∃ k : Nat, k ≤ 136 ∧ i = .int .i64 k ∧ ∃ C, Rel46 bs w k C wr)
    (fun i _ => 136 - (intOf i).toNat)
  case atStart =>
    refine ⟨0, by omega, rfl, (bcells zbl).toArray, ?_, ?_, ?_, ⟨by simp [bcells_len, zbl_len], fun j h => absurd h (by omega)⟩, ?_⟩
    · exact ((Blk.new _ _ _ _ rfl).alloc _).alloc _
    · exact (Blk.new _ _ _ _ (by simp)).alloc _
    · exact Blk.new _ _ _ _ (by simp)
    · exact (((Below.refl _ _).alloc (Nat.le_refl _) _).alloc (by simp) _).alloc (by simp; omega) _
  case round =>
    obtain ⟨k, hk, rfl, C, HR⟩ := hrel
    by_cases hlt : k < 136
    · have hg := hb.get hlt
      have hc0 : wr.cell? ⟨w.heap.size, k, none⟩ = some (.int .u8 ((bs.getD k 0 : Nat) : Int)) := HR.1.cell (by simpa using hg)
      obtain ⟨old, hc2⟩ : ∃ old, wr.cell? ⟨w.heap.size + 1 + 1, k, none⟩ = some old := ⟨_, HR.2.2.1.cell (Array.getElem?_eq_getElem (by rw [HR.2.2.2.1.1]; exact hlt))⟩
      have hf2 := HR.2.2.1.fro k
      obtain ⟨x, hx⟩ : ∃ x, x = bs.getD k 0 := ⟨_, rfl⟩
      rw [← hx] at hc0 hg
      have HG := hidd hg
      have HRR := hidd HR
      clear hx hg HR
      go_wp2
      go_roundw
      case rel =>
        refine ⟨k + 1, by omega, by go_num, _, HRR.out.1.other _ _ (by show _ ≠ _ + 1 + 1; omega), HRR.out.2.1.other _ _ (by show _ ≠ _ + 1 + 1; omega), HRR.out.2.2.1.same _ _, HRR.out.2.2.2.1.step hlt _ HG.out, HRR.out.2.2.2.2.setCell (by simp; omega) _⟩
      case measure => simp [intOf]; omega
    · have hk6 : k = 136 := by omega
      subst hk6
      have hC := Cop.done hb.len HR.2.2.2.1
      subst hC
      have HRR := hidd HR
      have h2 := HR.2.1.rowSame (bcells bs).toArray
      have hbel := below_setRow (g := w.heap.size + 1) HR.2.2.2.2 (by omega) (bcells bs).toArray
      have HH := hidd (And.intro h2 hbel)
      clear HR h2 hbel
      have HS := hidd (show (Try.prog.info? 29).map (·.size) = some (bcells bs).toArray.size by rw [size22]; simp [bcells_len, hb.len])
      go_wp2_with (first
        | (refine wpList_load_row rfl 29 (.tmp 3) rfl (w.heap.size + 1 + 1) rfl 29 _ (0,0) _ HRR.out.2.2.1 Try.underlying29 rfl HS.out ?_)
        | (refine wpList_store_row rfl 29 (.tmp 2) (.tmp 14) rfl (w.heap.size + 1) _ rfl rfl 29 _ HRR.out.2.1 HS.out (by simp [bcells_len, hb.len, zbl_len]) (bcells_one bs) ?_))
      refine bodyPost_ret (results_cell_row rfl _ _ (w.heap.size + 1) 29 _ (0,0) _ rfl HH.out.1 Try.underlying29 rfl HS.out) rfl ⟨rfl, HH.out.2⟩
set_option maxRecDepth 100000 in
set_option maxHeartbeats 400000 in
theorem toCol_any (n k : Int) (bs : List Nat) (w : World) (hb : Bys bs) :
    Calls Try.prog 12 #[.agg (ccells n k bs).toArray] w fun e w' => e = .returned (.agg (ccells n k bs).toArray) ∧ Below w.heap.size w w' := by
  have Hz := zero26
  obtain ⟨C, hC⟩ : ∃ C, C = (ccells n k bs).toArray := ⟨_, rfl⟩
  have hC0 : C[0]? = some (.int .i64 n) := by rw [hC]; rfl
  have hC1 : C[1]? = some (.int .i64 k) := by rw [hC]; rfl
  obtain ⟨Z, hZ⟩ : ∃ Z, Z = (ccells 0 0 zbl).toArray := ⟨_, rfl⟩
  have hZ0 : Z[0]? = some (.int .i64 0) := by rw [hZ]; rfl
  have hZ1 : Z[1]? = some (.int .i64 0) := by rw [hZ]; rfl
  rw [← hZ] at Hz
  rw [← hC]
  have HC := hidd hC
  have HZ := hidd hZ
  clear hC hZ
  have HR0 := hidd (show ∀ j v, (bcells bs)[j]? = some v → C[2 + j]? = some v by
    rw [HC.out]; intro j v hv; rw [show 2 + j = j + 1 + 1 by omega]; simpa [ccells] using hv)
  have HS := hidd (show (Try.prog.info? 29).map (·.size) = some (bcells bs).length by rw [size22]; simp [bcells_len, hb.len])
  go_enter Try.func12, Try.ntmps12
  go_wp2_with (refine wpList_load_mid rfl 29 (.tmp 10) rfl w.heap.size 2 rfl (bcells bs) _ ((((Blk.new w C 31 _ rfl).alloc _).alloc _).range 2 _ HR0.out) Try.underlying29 rfl HS.out ?_)
  refine (toByte_any bs _ hb).mono ?_
  rintro e w1 ⟨rfl, hb1⟩
  have g1 : Blk w1 (w.heap.size + 1) Z 32 := ((Blk.new _ _ _ _ (by simp)).alloc _).below hb1 (by simp)
  have g2 := (Blk.new ((w.alloc (Obj.cells C 31)).alloc (Obj.cells Z 32)) ((Z.setIfInBounds 0 (Value.int IntKind.i64 n)).setIfInBounds 1 (Value.int IntKind.i64 k)) 32 (w.heap.size + 1 + 1) (by simp)).below hb1 (by simp)
  rw [HZ.out, ccells_set0, ccells_set1] at g2
  have g3 : Below w.heap.size w w1 := ((((Below.refl _ _).alloc (Nat.le_refl _) _).alloc (by simp) _).alloc (by simp; omega) _).trans (hb1.mono (by simp; omega))
  have g4 := g2.cellsSame (bcells bs) 2
  rw [ccells_edges _ _ _ _ (by rw [zbl_len, hb.len]), ← HC.out] at g4
  have g5 := g1.cellsOther (g := w.heap.size + 1 + 1) (by omega) (bcells bs) 2
  have g6 := g5.rowSame C
  have g7 := below_setRow (below_setCells (b := w.heap.size + 1 + 1) (by omega) (bcells bs) 2 g3) (g := w.heap.size + 1) (by omega) C
  have HT := hidd (g2.there 2 (bcells bs).toArray.size (by simp [ccells_len, bcells_len, zbl_len, hb.len]))
  have HSS := hidd (show (Try.prog.info? 29).map (·.size) = some (bcells bs).toArray.size by rw [size22]; simp [bcells_len, hb.len])
  have HC6 := hidd (show (Try.prog.info? 32).map (·.size) = some C.size by rw [size26, HC.out]; simp [ccells_len, hb.len])
  have HO := hidd (show Z.size = C.size by rw [HC.out, HZ.out]; simp [ccells_len, hb.len, zbl_len])
  have HC1 := hidd (show C.all (·.oneCell') = true by rw [HC.out]; exact ccells_one n k bs)
  have G := hidd (And.intro g4 (And.intro g5 (And.intro g6 g7)))
  clear g1 g2 g3 g4 g5 g6 g7 hb1
  go_wp2_with (first
    | (refine wpList_store_mid rfl 29 (.tmp 13) (.tmp 12) rfl (w.heap.size + 1 + 1) 2 _ rfl rfl HT.out HSS.out (bcells_one bs) ?_)
    | (refine wpList_load_row rfl 32 (.tmp 3) rfl (w.heap.size + 1 + 1) rfl 32 _ (0,0) _ G.out.1 Try.underlying32 rfl HC6.out ?_)
    | (refine wpList_store_row rfl 32 (.tmp 2) (.tmp 14) rfl (w.heap.size + 1) _ rfl rfl 32 _ G.out.2.1 HC6.out HO.out HC1.out ?_))
  refine bodyPost_ret (results_cell_row rfl _ _ (w.heap.size + 1) 32 _ (0,0) _ rfl G.out.2.2.1 Try.underlying32 rfl HC6.out) rfl ⟨rfl, G.out.2.2.2⟩
end Go.Proofs.Ytidengcihakijaa
namespace Go.Proofs.Ytidengcihakijaa
open Go Go.RowKit Go.ChangeShapes Go.WideShapes
section
variable {H : Type} {enc : TypeId × Value → H} {w : World} {base : Nat} {spare : Nat → Bool} {held : Bool}
theorem cells24 : Try.prog.cellsOf 31 = 138 := by kernel_rfl
theorem cells22 : Try.prog.cellsOf 29 = 136 := by kernel_rfl
theorem cells5 : Try.prog.cellsOf 5 = 1 := by kernel_rfl
theorem cells2 : Try.prog.cellsOf 2 = 1 := by kernel_rfl
def byteAt : Value → Nat | .int _ n => n.toNat | _ => 0
theorem u8_bd {n : Int} (h : (Lit.int .u8 n).wf = true) : 0 ≤ n ∧ n < 256 := by
  have := bounds_u8 h; omega
/-- The cells of a row of bytes that can be read. -/
theorem open_bytes {fuel : Nat} {cs : List Value} {x : DataW H × List MemPlace} (h : DataW.trod enc Try.prog w base spare held fuel 29 cs = some x) :
    ∃ bs, cs = bcells bs ∧ Bys bs := by
  obtain ⟨xs, m, rfl, rfl, hl, hxl, hel⟩ := DataW.trod_array Try.underlying29 h
  rw [cells22] at hl
  rw [cells5] at hel
  have each : ∀ i, i < 136 → ∃ n : Int, cs[i]? = some (.int .u8 n) ∧ 0 ≤ n ∧ n < 256 := by
    intro i hi
    have h1 := hel i hi
    have hx : i < xs.length := by omega
    rw [List.getElem?_eq_getElem hx] at h1
    obtain ⟨n, e1, e2, e3⟩ := DataW.trod_int Try.underlying5 h1
    refine ⟨n, ?_, u8_bd e3⟩
    have : ((cs.drop (i * 1)).take 1)[0]? = some (.int .u8 n) := by rw [e1]; rfl
    simpa using this
  refine ⟨cs.map byteAt, ?_, ⟨by simpa using hl, ?_⟩⟩
  · apply List.ext_getElem?
    intro i
    by_cases hi : i < 136
    · obtain ⟨n, e1, e3, e4⟩ := each i hi
      simp only [bcells, List.getElem?_map, e1, Option.map_some, byteAt]
      rw [show ((n.toNat : Nat) : Int) = n by omega]
    · rw [List.getElem?_eq_none (by omega), List.getElem?_eq_none (by simp [bcells]; omega)]
  · intro j
    by_cases hi : j < 136
    · obtain ⟨n, e1, e3, e4⟩ := each j hi
      simp only [List.getD, List.getElem?_map, e1, Option.map_some, byteAt, Option.getD_some]; omega
    · simp only [List.getD, List.getElem?_map, List.getElem?_eq_none (show cs.length ≤ j by omega)]; simp
/-- The bounds of a number that fits. -/
theorem i64_bd {n : Int} (h : (Lit.int .i64 n).wf = true) : -9223372036854775808 ≤ n ∧ n ≤ 9223372036854775807 := by
  have := bounds_i64 h; omega
set_option maxRecDepth 100000 in
set_option maxRecDepth 100000 in
set_option maxRecDepth 100000 in
set_option maxRecDepth 100000 in
/-- A struct of a colouring's make that can be read. -/
theorem open_col {t : TypeId} (ht : Try.prog.underlying t = some (.struct #[{ name := "Points", type := 2, offset := 0, embedded := false, tag := "", pkgPath := "", byteOffset := 0 }, { name := "Colours", type := 2, offset := 1, embedded := false, tag := "", pkgPath := "", byteOffset := 8 }, { name := "Edges", type := 29, offset := 2, embedded := false, tag := "", pkgPath := "", byteOffset := 16 }]))
    (hc : Try.prog.cellsOf t = 138) {v : Value} {d : DataW H} {ps : List MemPlace} {r : Reach} {b : Nat} (hv : Value.okWide Try.prog w r b t v) (h : DataW.Trod enc Try.prog w base spare held t v d ps) :
    ∃ n k bs, v = .agg (ccells n k bs).toArray ∧ Bys bs ∧ (Lit.int .i64 n).wf = true ∧ (Lit.int .i64 k).wf = true := by
  unfold Value.okWide at hv
  rw [ht] at hv
  obtain ⟨cs, rfl, hs, _⟩ := hv
  obtain ⟨fuel, h⟩ := h
  obtain ⟨xs, m, rfl, hx, hl, hxl, hel⟩ := DataW.trod_struct ht h
  have hxl3 : xs.length = 3 := hxl
  have h0 : DataW.trod enc Try.prog w base spare held m 2 ((cs.toList.drop 0).take (Try.prog.cellsOf 2)) = xs[0]? := hel 0 _ rfl
  have h1 : DataW.trod enc Try.prog w base spare held m 2 ((cs.toList.drop 1).take (Try.prog.cellsOf 2)) = xs[1]? := hel 1 _ rfl
  have h2 : DataW.trod enc Try.prog w base spare held m 29 ((cs.toList.drop 2).take (Try.prog.cellsOf 29)) = xs[2]? := hel 2 _ rfl
  rw [cells2] at h0 h1
  rw [cells22] at h2
  rw [List.getElem?_eq_getElem (by omega)] at h0 h1 h2
  obtain ⟨n, e0, _, wn⟩ := DataW.trod_int Try.underlying2 h0
  obtain ⟨k, e1, _, wk⟩ := DataW.trod_int Try.underlying2 h1
  obtain ⟨bs, e2, hb⟩ := open_bytes h2
  refine ⟨n, k, bs, ?_, hb, wn, wk⟩
  have hlen : cs.toList.length = 138 := by rw [hc] at hs; simpa using hs
  have hcs : cs.toList = ccells n k bs := by
    generalize cs.toList = l at *
    rcases l with _ | ⟨a, _ | ⟨b, r⟩⟩
    · cases hlen
    · cases hlen
    · have hr : r.length = 136 := by rw [List.length_cons, List.length_cons] at hlen; omega
      simp only [List.drop_zero, List.drop_succ_cons, List.take_succ_cons, List.take_zero, List.cons.injEq, and_true] at e0 e1 e2
      rw [List.take_of_length_le (by omega)] at e2
      rw [e0, e1, e2]; rfl
  rw [← hcs]
end
#print axioms open_col
end Go.Proofs.Ytidengcihakijaa
/- The numbers of edges; the tests of numbers and lists; the colour of an edge. -/
namespace Go.Proofs.Ytidengcihakijaa
open Go Go.RowKit
/-- The number of the edge of two points. -/
def eix (i j : Int) : Int := if j < i then edg i + j else edg j + i
theorem edg_step (n : Int) : edg (n + 1) = edg n + n := by
  unfold edg
  have e : (n + 1) * (n + 1 - 1) = n * (n - 1) + n * 2 := by
    rw [show n + 1 - 1 = n by omega, show n * 2 = n * 1 + n * 1 by omega, Int.mul_sub, Int.add_mul]; omega
  rw [e, Int.add_mul_ediv_right _ _ (by omega)]
theorem edg_mono {a b : Int} (h0 : 0 ≤ a) (h : a ≤ b) : edg a ≤ edg b := by
  obtain ⟨d, rfl⟩ : ∃ d : Nat, b = a + d := ⟨(b - a).toNat, by omega⟩
  clear h
  induction d with
  | zero => simp
  | succ d ih =>
    have := edg_step (a + d)
    rw [show a + ((d + 1 : Nat) : Int) = a + d + 1 by omega, this]; omega
theorem edg_pos {a : Int} (h0 : 0 ≤ a) : 0 ≤ edg a := by
  have := edg_mono (show (0 : Int) ≤ 0 by omega) h0
  have e : edg 0 = 0 := by decide
  omega
theorem eix_bd {n i j : Int} (hn : n ≤ 17) (hi0 : 0 ≤ i) (hi : i < n) (hj0 : 0 ≤ j) (hj : j < n) (hij : i ≠ j) : 0 ≤ eix i j ∧ eix i j < edg n ∧ eix i j < 136 := by
  have h17 := (edg_bd (show 1 ≤ n by omega) hn).2
  unfold eix
  split
  · have h1 := edg_mono (show 0 ≤ i + 1 by omega) (show i + 1 ≤ n by omega)
    have h2 := edg_step i
    have h3 := edg_pos hi0
    omega
  · have h1 := edg_mono (show 0 ≤ j + 1 by omega) (show j + 1 ≤ n by omega)
    have h2 := edg_step j
    have h3 := edg_pos hj0
    omega
theorem eix_comm {i j : Int} (h : i ≠ j) : eix i j = eix j i := by
  unfold eix; split <;> split <;> omega
theorem mul16 {n : Int} (h1 : 0 ≤ n) (h2 : n ≤ 16) : 0 ≤ n * (n - 1) ∧ n * (n - 1) ≤ 240 := by
  by_cases h : n = 0
  · subst h; decide
  · exact ⟨Int.mul_nonneg h1 (by omega), Int.le_trans (Int.mul_le_mul h2 (show n - 1 ≤ 15 by omega) (by omega) (by omega)) (by omega)⟩
set_option maxRecDepth 100000 in
theorem edge79 (i j : Int) (w : World) (hi0 : 0 ≤ i) (hi : i ≤ 16) (hj0 : 0 ≤ j) (hj : j ≤ 16) :
    Calls Try.prog 46 #[.int .i64 i, .int .i64 j] w fun e w' => e = .returned (.int .i64 (eix i j)) ∧ w = w' := by
  obtain ⟨m1, m2⟩ := mul16 hi0 hi
  obtain ⟨m3, m4⟩ := mul16 hj0 hj
  by_cases h : j < i
  · have H := hidd (show eix i j = i * (i - 1) / 2 + j by unfold eix edg; rw [if_pos h])
    go_enter Try.func46, Try.ntmps46
    go_wp2
    go_ret
    exact ⟨by rw [H.out]; rfl, rfl⟩
  · have H := hidd (show eix i j = j * (j - 1) / 2 + i by unfold eix edg; rw [if_neg h])
    have h' : i ≤ j := by omega
    go_enter Try.func46, Try.ntmps46
    go_wp2
    go_ret
    exact ⟨by rw [H.out]; rfl, rfl⟩
set_option maxRecDepth 100000 in
theorem edge54 (i j : Int) (w : World) (hij : i ≠ j) (hi0 : 0 ≤ i) (hi : i ≤ 16) (hj0 : 0 ≤ j) (hj : j ≤ 16) :
    Calls Try.prog 42 #[.int .i64 i, .int .i64 j] w fun e w' => e = .returned (.int .i64 (eix i j)) ∧ w = w' := by
  obtain ⟨m1, m2⟩ := mul16 hi0 hi
  obtain ⟨m3, m4⟩ := mul16 hj0 hj
  by_cases h : j < i
  · have H := hidd (show eix i j = i * (i - 1) / 2 + j by unfold eix edg; rw [if_pos h])
    go_enter Try.func42, Try.ntmps42
    go_wp2
    go_ret
    exact ⟨by rw [H.out]; rfl, rfl⟩
  · have H := hidd (show eix i j = j * (j - 1) / 2 + i by unfold eix edg; rw [if_neg h])
    have h' : i < j := by omega
    clear h hij
    go_enter Try.func42, Try.ntmps42
    go_wp2
    go_ret
    exact ⟨by rw [H.out]; rfl, rfl⟩
/-- The colour at an edge. -/
def colAt (bs : List Nat) (i j : Int) : Int := ((bs.getD (eix i j).toNat 0 : Nat) : Int)
theorem colAt_bd {bs : List Nat} (hb : Bys bs) (i j : Int) : 0 ≤ colAt bs i j ∧ colAt bs i j < 256 := by
  have := hb.lt (eix i j).toNat
  unfold colAt; omega
set_option maxRecDepth 100000 in
theorem at57 (n k : Int) (bs : List Nat) (hb : Bys bs) (m i j : Int) (w : World) (hm : m ≤ 17) (hi0 : 0 ≤ i) (hi : i < m) (hj0 : 0 ≤ j) (hj : j < m) (hij : i ≠ j) :
    Calls Try.prog 45 #[.agg (ccells n k bs).toArray, .int .i64 i, .int .i64 j] w fun e w' => e = .returned (.int .i64 (colAt bs i j)) ∧ Below w.heap.size w w' := by
  obtain ⟨h1, h2, h3⟩ := eix_bd hm hi0 hi hj0 hj hij
  obtain ⟨E, hE⟩ := Int.eq_ofNat_of_zero_le h1
  have hE1 : E < 136 := by omega
  obtain ⟨x, hx⟩ : ∃ x, x = bs.getD E 0 := ⟨_, rfl⟩
  have hc : (w.alloc (.cells (ccells n k bs).toArray 32)).cell? ⟨w.heap.size, 2 + E, none⟩ = some (.int .u8 (x : Int)) := (Blk.new _ _ _ _ rfl).cell (by rw [hx]; exact hb.cget n k hE1)
  have hr : colAt bs i j = (x : Int) := by unfold colAt; rw [hE, Int.toNat_natCast, hx]
  have hx2 : x < 256 := by rw [hx]; exact hb.lt E
  have HE := hidd hE
  have HR := hidd hr
  have hi' : i ≤ 16 := by omega
  have hj' : j ≤ 16 := by omega
  clear hE hx hr h1 h2 h3 hij
  go_enter Try.func45, Try.ntmps45
  go_wp2_with (go_at_call 46; refine (edge79 _ _ _ hi0 hi' hj0 hj').mono ?_; rintro e w' ⟨rfl, rfl⟩; rw [HE.out])
  go_ret
  exact ⟨by rw [HR.out]; rfl, (Below.refl _ _).alloc (Nat.le_refl _) _⟩
end Go.Proofs.Ytidengcihakijaa
/- Tests of numbers, pairs and lists, and the code of what is given. -/
namespace Go.Proofs.Ytidengcihakijaa
open Go Go.RowKit
def inB (n lo hi : Int) : Bool := decide (lo ≤ n) && decide (n ≤ hi)
theorem inB_yes {n lo hi : Int} (h1 : lo ≤ n) (h2 : n ≤ hi) : inB n lo hi = true := by simp [inB, h1, h2]
theorem inB_no {n lo hi : Int} (h : ¬ (lo ≤ n ∧ n ≤ hi)) : inB n lo hi = false := by
  simp only [inB, Bool.and_eq_false_iff, decide_eq_false_iff_not]; omega
theorem inB_bd {n lo hi : Int} (h : inB n lo hi = true) : lo ≤ n ∧ n ≤ hi := by simpa [inB] using h
theorem inB_out {n lo hi : Int} (h : inB n lo hi = false) : ¬ (lo ≤ n ∧ n ≤ hi) := by
  simp only [inB, Bool.and_eq_false_iff, decide_eq_false_iff_not] at h; omega
theorem in49 (n lo hi : Int) (w : World) : Calls Try.prog 44 #[.int .i64 n, .int .i64 lo, .int .i64 hi] w fun e w' => e = .returned (.bool (inB n lo hi)) ∧ w = w' := by
  by_cases h1 : lo ≤ n
  · by_cases h2 : n ≤ hi
    · rw [inB_yes h1 h2]; exact in49_yes n lo hi w h1 h2
    · have H := hidd (inB_no (n := n) (lo := lo) (hi := hi) (by omega))
      have hd : decide (n ≤ hi) = false := by simpa using h2
      clear h2
      go_enter Try.func44, Try.ntmps44
      go_wp2
      go_ret
      exact ⟨by rw [H.out]; rfl, rfl⟩
  · have H := hidd (inB_no (n := n) (lo := lo) (hi := hi) (by omega))
    have hd : decide (lo ≤ n) = false := by simpa using h1
    clear h1
    go_enter Try.func44, Try.ntmps44
    go_wp2
    go_ret
    exact ⟨by rw [H.out]; rfl, rfl⟩
/-- impl.isBelow -/
def belowB (n m : Int) : Bool := inB n 0 (m - 1)
theorem below61 (n m : Int) (w : World) : Calls Try.prog 75 #[.int .i64 n, .int .i64 m] w fun e w' => e = .returned (.bool (belowB n m)) ∧ w = w' := by
  by_cases h1 : 0 ≤ n
  · by_cases h2 : n < m
    · have H := hidd (show belowB n m = true from inB_yes h1 (by omega))
      go_enter Try.func75, Try.ntmps75
      go_wp2
      go_ret
      exact ⟨by rw [H.out]; rfl, rfl⟩
    · have H := hidd (show belowB n m = false from inB_no (by omega))
      have hd : decide (n < m) = false := by simpa using h2
      clear h2
      go_enter Try.func75, Try.ntmps75
      go_wp2
      go_ret
      exact ⟨by rw [H.out]; rfl, rfl⟩
  · have H := hidd (show belowB n m = false from inB_no (by omega))
    have hd : decide (0 ≤ n) = false := by simpa using h1
    clear h1
    go_enter Try.func75, Try.ntmps75
    go_wp2
    go_ret
    exact ⟨by rw [H.out]; rfl, rfl⟩
/-- impl.arePointPair -/
def pairB (i j n : Int) : Bool := belowB i n && belowB j n && decide (i ≠ j)
theorem pairB_yes {i j n : Int} (h1 : belowB i n = true) (h2 : belowB j n = true) (h3 : i ≠ j) : pairB i j n = true := by simp [pairB, h1, h2, h3]
theorem pairB_no1 {i j n : Int} (h1 : belowB i n = false) : pairB i j n = false := by simp [pairB, h1]
theorem pairB_no2 {i j n : Int} (h1 : belowB j n = false) : pairB i j n = false := by simp [pairB, h1]
theorem pairB_no3 {i n : Int} : pairB i i n = false := by simp [pairB]
theorem pairB_bd {i j n : Int} (h : pairB i j n = true) : 0 ≤ i ∧ i < n ∧ 0 ≤ j ∧ j < n ∧ i ≠ j := by
  simp only [pairB, Bool.and_eq_true, decide_eq_true_eq] at h
  obtain ⟨⟨h1, h2⟩, h3⟩ := h
  have := inB_bd h1; have := inB_bd h2
  exact ⟨by omega, by omega, by omega, by omega, h3⟩
/-- The elements of a slice of numbers lie where it leads. -/
def SlI (w : World) (a : Option Addr) (zs : List Int) : Prop := zs = [] ∨ ∃ b off, a = some ⟨b, off, none⟩ ∧ ∀ j, j < zs.length → w.cell? ⟨b, off + j, none⟩ = some (.int .i64 (zs.getD j 0))
theorem SlI.below {w w' : World} {B : Nat} {a : Option Addr} {zs : List Int} (h : SlI w a zs) (hb : Below B w w') (hB : w.heap.size ≤ B) : SlI w' a zs := by
  rcases h with h | ⟨b, off, ha, hc⟩
  · exact .inl h
  · refine .inr ⟨b, off, ha, fun j hj => ?_⟩
    have hcj := hc j hj
    have hlt := block_lt_of_cell hcj
    rw [hb.cell (p := ⟨b, off + j, none⟩) (by show b < B; exact Nat.lt_of_lt_of_le hlt hB)]; exact hcj
/-- Are all numbers of a list from 0 to k - 1? -/
def allB (zs : List Int) (k : Int) : Bool := zs.all fun z => belowB z k
theorem allB_yes {zs : List Int} {k : Int} (h : ∀ j, j < zs.length → belowB (zs.getD j 0) k = true) : allB zs k = true := by
  unfold allB
  rw [List.all_eq_true]
  intro z hz
  obtain ⟨j, hj, rfl⟩ := List.mem_iff_getElem.1 hz
  have := h j hj
  simpa [List.getD, hj] using this
theorem allB_no {zs : List Int} {k : Int} {j : Nat} (hj : j < zs.length) (h : belowB (zs.getD j 0) k = false) : allB zs k = false := by
  unfold allB
  rw [List.all_eq_false]
  refine ⟨zs[j], List.getElem_mem hj, ?_⟩
  have : zs.getD j 0 = zs[j] := by simp [List.getD, hj]
  rw [this] at h; rw [h]; simp
theorem allB_get {zs : List Int} {k : Int} (h : allB zs k = true) {j : Nat} (hj : j < zs.length) : 0 ≤ zs.getD j 0 ∧ zs.getD j 0 < k := by
  unfold allB at h
  rw [List.all_eq_true] at h
  have h1 := inB_bd (h zs[j] (List.getElem_mem hj))
  have : zs.getD j 0 = zs[j] := by simp [List.getD, hj]
  rw [this]; omega
end Go.Proofs.Ytidengcihakijaa
/- The code of a colouring, a colour and points. -/
namespace Go.Proofs.Ytidengcihakijaa
open Go Go.RowKit
theorem size_c26 (n k : Int) {bs : List Nat} (hb : Bys bs) : (Try.prog.info? 32).map (·.size) = some (ccells n k bs).toArray.size := by rw [size26]; simp [ccells_len, hb.len]
theorem size_c24 (n k : Int) {bs : List Nat} (hb : Bys bs) : (Try.prog.info? 31).map (·.size) = some (ccells n k bs).toArray.size := by rw [size24]; simp [ccells_len, hb.len]
theorem isCol_bd {n k : Int} {bs : List Nat} (h : isCol n k bs = true) : 1 ≤ n ∧ n ≤ 17 ∧ 1 ≤ k ∧ k ≤ 4 := shape_bd (isCol_good h).1
def given (n k : Int) (bs : List Nat) (c : Int) (zs : List Int) : Int := if isCol n k bs then (if belowB c k && allB zs n then 0 else 2) else 1
theorem given_1 {n k : Int} {bs : List Nat} {c : Int} {zs : List Int} (h : isCol n k bs = false) : given n k bs c zs = 1 := by simp [given, h]
theorem given_2 {n k : Int} {bs : List Nat} {c : Int} {zs : List Int} (h : isCol n k bs = true) (h2 : (belowB c k && allB zs n) = false) : given n k bs c zs = 2 := by
  unfold given; rw [if_pos h, h2]; rfl
theorem given_0 {n k : Int} {bs : List Nat} {c : Int} {zs : List Int} (h : isCol n k bs = true) (h1 : belowB c k = true) (h2 : allB zs n = true) : given n k bs c zs = 0 := by simp [given, h, h1, h2]
end Go.Proofs.Ytidengcihakijaa
/- ColourOf: the program and its model. -/
namespace Go.Proofs.Ytidengcihakijaa
open Go Go.RowKit
/-- The code of an edge that is asked for. -/
def codeE (n k : Int) (bs : List Nat) (i j : Int) : Int := if isCol n k bs then (if pairB i j n then 0 else 2) else 1
def colE (n k : Int) (bs : List Nat) (i j : Int) : Int := if isCol n k bs && pairB i j n then colAt bs i j else 0
theorem codeE_1 {n k : Int} {bs : List Nat} {i j : Int} (h : isCol n k bs = false) : codeE n k bs i j = 1 ∧ colE n k bs i j = 0 := by simp [codeE, colE, h]
theorem codeE_2 {n k : Int} {bs : List Nat} {i j : Int} (h : isCol n k bs = true) (h2 : pairB i j n = false) : codeE n k bs i j = 2 ∧ colE n k bs i j = 0 := by simp [codeE, colE, h, h2]
theorem codeE_0 {n k : Int} {bs : List Nat} {i j : Int} (h : isCol n k bs = true) (h2 : pairB i j n = true) : codeE n k bs i j = 0 ∧ colE n k bs i j = colAt bs i j := by simp [codeE, colE, h, h2]
theorem all2 (i j n : Int) : allB [i, j] n = (belowB i n && belowB j n) := by simp [allB]
theorem pair_of {i j n : Int} (h : allB [i, j] n = true) (h2 : i ≠ j) : pairB i j n = true := by
  rw [all2, Bool.and_eq_true] at h; exact pairB_yes h.1 h.2 h2
theorem pair_not {i j n : Int} (h : allB [i, j] n = false) : pairB i j n = false := by
  rw [all2, Bool.and_eq_false_iff] at h
  rcases h with h | h
  · exact pairB_no1 h
  · exact pairB_no2 h
theorem below0 {k : Int} (h : 1 ≤ k) : belowB 0 k = true := inB_yes (by omega) (by omega)
theorem sl2 (w : World) (i j : Int) (t : TypeId) (b : Nat) (hb : b = w.heap.size) : SlI (w.alloc (.cells #[.int .i64 i, .int .i64 j] t)) (some ⟨b, 0, none⟩) [i, j] := by
  refine .inr ⟨_, _, rfl, fun m hm => ?_⟩
  have hB := Blk.new w #[.int .i64 i, .int .i64 j] t b hb
  match m, hm with
  | 0, _ => exact hB.cell rfl
  | 1, _ => exact hB.cell rfl
end Go.Proofs.Ytidengcihakijaa
/- The laws' comparison of two colourings, field by field. -/
namespace Go.Proofs.Ytidengcihakijaa
set_option linter.unusedVariables false
set_option linter.unusedSimpArgs false
open Go Go.RowKit
def Rel55 (cs bs : List Nat) (w : World) (k : Nat) (wr : World) : Prop := Blk wr w.heap.size (bcells cs).toArray 29 ∧ Blk wr (w.heap.size + 1) (bcells bs).toArray 29 ∧ Below w.heap.size w wr
end Go.Proofs.Ytidengcihakijaa
/- Results that hold a colouring. -/
namespace Go.Proofs.Ytidengcihakijaa
set_option linter.unusedVariables false
set_option linter.unusedSimpArgs false
open Go Go.RowKit
theorem built26 : Try.prog.built 32 [] = some (ccells 0 0 zbl).toArray := by kernel_rfl
theorem wpList_zero26 {ops : Array Oper} {rest : List Oper} {o : Oper} {a : Act} {w : World} {Q : Exit → Act → World → Prop} (hg : o.guard = none) (ho : o.op = .build 32 #[])
    (h : wpList Try.prog ops Q rest (a.put o.dst (.agg (ccells 0 0 zbl).toArray)) w) : wpList Try.prog ops Q (o :: rest) a w := by
  obtain ⟨Z, hZ⟩ : ∃ Z, Z = (ccells 0 0 zbl).toArray := ⟨_, rfl⟩
  have hb : Try.prog.built 32 [] = some Z := by rw [hZ]; exact built26
  rw [← hZ] at h
  clear hZ
  have e : ((#[] : Array (Nat × Operand)).map fun (i, x) => (i, a.eval x)).toList = [] := by simp
  refine wpList_build hg 32 #[] ho ?_ ?_
  · rw [e, hb]; rfl
  · rw [e, hb]; exact h
theorem results_row_tmp {P : Program} {fn : Func} {p u : Tmp} {ty : TypeId} (h : fn.results = #[.cell p ty, .tmp u]) (tmps : Array Value) (w : World) (g : Nat) (t : TypeId) (cs : Array Value) (d : TypeDesc)
    (hp : tmps.getD p undef = .pointer (some ⟨g, 0, none⟩)) (hg : Blk w g cs t)
    (hu : P.underlying ty = some d) (hd : (match d with | .struct _ | .array _ _ => true | _ => false) = true) (hi : (P.info? ty).map (·.size) = some cs.size) :
    (results fn tmps).run P w = .ok (.tuple #[.agg cs, tmps.getD u undef]) w := by
  rw [results_cell_tmp h, hp]
  simp [asAddr, Result.andThen, run_loadVar_row w g t ty cs (0, 0) d hg hu hd hi]
theorem size_z26 : (Try.prog.info? 32).map (·.size) = some (ccells 0 0 zbl).toArray.size := size_c26 0 0 zbl_bys
theorem size_cc (n k m l : Int) {bs cs : List Nat} (hb : Bys bs) (hc : Bys cs) : (ccells n k bs).toArray.size = (ccells m l cs).toArray.size := by simp [ccells_len, hb.len, hc.len]
/-- A number below 256 as a byte. -/
theorem u8_in {c : Int} (h0 : 0 ≤ c) (h1 : c < 256) : IntKind.u8.wrap c = c := by
  simp [IntKind.wrap, IntKind.bits, IntKind.signed]; omega
/-- The load of a whole row behind a guard that lets it by. -/
theorem wpList_load_if {P : Program} {ops : Array Oper} {rest : List Oper} {o : Oper} {a : Act} {w : World} {Q : Exit → Act → World → Prop} (hw : Region.wanted o (yielded ops a.tmps) = true) (ty : TypeId) (x : Operand) (ho : o.op = .load ty x)
    (g : Nat) (hx : a.eval x = .pointer (some ⟨g, 0, none⟩)) (t : TypeId) (cs : Array Value) (d : TypeDesc) (hg : Blk w g cs t)
    (hu : P.underlying ty = some d) (hd : (match d with | .struct _ | .array _ _ => true | _ => false) = true) (hi : (P.info? ty).map (·.size) = some cs.size)
    (h : wpList P ops Q rest (a.put o.dst (.agg cs)) w) : wpList P ops Q (o :: rest) a w := by
  simp only [wpList, hw, if_true]
  exact .inl (wp_load_row ty x ho g hx t cs (0, 0) d hg hu hd hi h)
end Go.Proofs.Ytidengcihakijaa
/- ChangeEdge: the program and its model. -/
namespace Go.Proofs.Ytidengcihakijaa
set_option linter.unusedVariables false
set_option linter.unusedSimpArgs false
open Go Go.RowKit
def setAt (bs : List Nat) (i j c : Int) : List Nat := bs.set (eix i j).toNat c.toNat
theorem setAt_bys {bs : List Nat} (hb : Bys bs) (i j : Int) {c : Int} (h0 : 0 ≤ c) (h1 : c < 256) : Bys (setAt bs i j c) := hb.set _ _ (by omega)
def codeC (n k : Int) (bs : List Nat) (i j c : Int) : Int := if isCol n k bs then (if pairB i j n && belowB c k then 0 else 2) else 1
def chN (n k : Int) (bs : List Nat) (i j c : Int) : Int := if codeC n k bs i j c = 0 then n else 0
def chK (n k : Int) (bs : List Nat) (i j c : Int) : Int := if codeC n k bs i j c = 0 then k else 0
def chB (n k : Int) (bs : List Nat) (i j c : Int) : List Nat := if codeC n k bs i j c = 0 then setAt bs i j c else zbl
/-- What ChangeEdge returns. -/
def chOut (n k : Int) (bs : List Nat) (i j c : Int) : Value := .tuple #[.agg (ccells (chN n k bs i j c) (chK n k bs i j c) (chB n k bs i j c)).toArray, .int .i64 (codeC n k bs i j c)]
theorem chOut_bad {n k : Int} {bs : List Nat} {i j c m : Int} (h : codeC n k bs i j c = m) (hm : m ≠ 0) : chOut n k bs i j c = .tuple #[.agg (ccells 0 0 zbl).toArray, .int .i64 m] := by
  simp [chOut, chN, chK, chB, h, hm]
theorem chOut_good {n k : Int} {bs : List Nat} {i j c : Int} (h : codeC n k bs i j c = 0) : chOut n k bs i j c = .tuple #[.agg (ccells n k (setAt bs i j c)).toArray, .int .i64 0] := by
  simp [chOut, chN, chK, chB, h]
theorem codeC_1 {n k : Int} {bs : List Nat} {i j c : Int} (h : isCol n k bs = false) : codeC n k bs i j c = 1 := by simp [codeC, h]
theorem codeC_2 {n k : Int} {bs : List Nat} {i j c : Int} (h : isCol n k bs = true) (h2 : (pairB i j n && belowB c k) = false) : codeC n k bs i j c = 2 := by
  unfold codeC; rw [if_pos h, h2]; rfl
theorem codeC_0 {n k : Int} {bs : List Nat} {i j c : Int} (h : isCol n k bs = true) (h1 : pairB i j n = true) (h2 : belowB c k = true) : codeC n k bs i j c = 0 := by simp [codeC, h, h1, h2]
theorem codeC_cases (n k : Int) (bs : List Nat) (i j c : Int) : codeC n k bs i j c = 0 ∧ pairB i j n = true ∧ belowB c k = true ∧ isCol n k bs = true ∨ codeC n k bs i j c ≠ 0 := by
  unfold codeC
  cases h : isCol n k bs <;> cases h1 : pairB i j n <;> cases h2 : belowB c k <;> simp
theorem chB_bys {n k : Int} {bs : List Nat} (hb : Bys bs) (i j c : Int) : Bys (chB n k bs i j c) := by
  unfold chB
  rcases codeC_cases n k bs i j c with ⟨h, _, h2, h3⟩ | h
  · rw [if_pos h]
    have := inB_bd h2
    have := isCol_bd h3
    exact setAt_bys hb _ _ (by omega) (by omega)
  · rw [if_neg h]; exact zbl_bys
/-- How a function ends that returns a colouring and a code: the result's row and the code's slot. -/
theorem ret_col {fn : Func} {p u : Tmp} (h : fn.results = #[.cell p 32, .tmp u]) {tmps : Array Value} {w : World} {R : Ending → World → Prop} {g : Nat} {t : TypeId} {n k : Int} {bs : List Nat} (hb : Bys bs) {d : List Deferred}
    (hp : tmps.getD p undef = .pointer (some ⟨g, 0, none⟩)) (hg : Blk w g (ccells n k bs).toArray t) (hd : d = []) {v : Value} (hv : v = .tuple #[.agg (ccells n k bs).toArray, tmps.getD u undef]) (hR : R (.returned v) w) :
    bodyPost Try.prog fn R .ret ⟨tmps, d⟩ w := by
  subst hv
  exact bodyPost_ret (results_row_tmp h tmps w g t _ _ hp hg Try.underlying32 rfl (size_c26 n k hb)) hd hR
theorem after3 {w w1 : World} {C Z : Array Value} {t : TypeId} {o : Obj} (hb1 : Below (((w.alloc (.cells C t)).alloc (.cells Z 32)).alloc o).heap.size (((w.alloc (.cells C t)).alloc (.cells Z 32)).alloc o) w1) :
    Blk w1 w.heap.size C t ∧ Blk w1 (w.heap.size + 1) Z 32 ∧ Below w.heap.size w w1 :=
  ⟨(((Blk.new w C t _ rfl).alloc _).alloc _).below hb1 (by simp; omega), ((Blk.new _ Z 32 _ (by simp)).alloc _).below hb1 (by simp),
    ((((Below.refl _ _).alloc (Nat.le_refl _) _).alloc (by simp) _).alloc (by simp; omega) _).trans (hb1.mono (by simp; omega))⟩
theorem after2 {w w1 : World} {C Z : Array Value} {t : TypeId} (hb1 : Below ((w.alloc (.cells C t)).alloc (.cells Z 32)).heap.size ((w.alloc (.cells C t)).alloc (.cells Z 32)) w1) :
    Blk w1 w.heap.size C t ∧ Blk w1 (w.heap.size + 1) Z 32 ∧ Below w.heap.size w w1 :=
  ⟨((Blk.new w C t _ rfl).alloc _).below hb1 (by simp; omega), (Blk.new _ Z 32 _ (by simp)).below hb1 (by simp),
    (((Below.refl _ _).alloc (Nat.le_refl _) _).alloc (by simp) _).trans (hb1.mono (by simp; omega))⟩
end Go.Proofs.Ytidengcihakijaa
/- Lists of numbers: the laws' copies and comparisons, and the program's test of a list. -/
namespace Go.Proofs.Ytidengcihakijaa
set_option linter.unusedVariables false
set_option linter.unusedSimpArgs false
open Go Go.RowKit
def icells (zs : List Int) : List Value := zs.map (Value.int .i64)
theorem icells_len (zs : List Int) : (icells zs).length = zs.length := by simp [icells]
theorem icells_get {zs : List Int} {j : Nat} (h : j < zs.length) : (icells zs).toArray[j]? = some (.int .i64 (zs.getD j 0)) := by simp [icells, List.getD, h]
theorem sl_of_blk {w : World} {b : Nat} {zs : List Int} {t : TypeId} (h : Blk w b (icells zs).toArray t) : SlI w (some ⟨b, 0, none⟩) zs :=
  .inr ⟨b, 0, rfl, fun j hj => by rw [Nat.zero_add]; exact h.cell (icells_get hj)⟩
def zrow (n : Nat) : Array Value := madeCells #[.int .i64 0] n
theorem zrow_size (n : Nat) : (zrow n).size = n := size_madeCells _ _
theorem info2 : (Try.prog.info? 2).map (fun i => (i.zero, i.size, i.bytes)) = some (some (.int .i64 0), 1, 8) := by kernel_rfl
theorem make29 (n : Nat) (h : n ≤ 1048576) (w : World) : (Instr.makeSlice 22 (.int .i64 n) (.int .i64 n)).run Try.prog w = .ok (.slice (some ⟨w.heap.size, 0, none⟩) n n) (w.alloc (.cells (zrow n) 2)) := by
  obtain ⟨i, hi, hz0, hz1, hz2⟩ := info_parts info2
  have := run_make (P := Try.prog) w 22 2 i (.int .i64 0) Try.underlying22 hi hz0 .i64 .i64 n n (by omega) (by omega) (by rw [hz2]; omega) (by omega)
  rw [this, hz1]
  simp [zrow, Value.cells]
/-- Cells that are the numbers up to k. -/
def Cin (zs : List Int) (k : Nat) (C : Array Value) : Prop := C.size = zs.length ∧ ∀ j, j < k → C[j]? = (icells zs)[j]?
theorem Cin.step {zs : List Int} {k : Nat} {C : Array Value} (h : Cin zs k C) (hk : k < zs.length) : Cin zs (k + 1) (C.setIfInBounds k (.int .i64 (zs.getD k 0))) := by
  refine ⟨by simp [h.1], fun j hj => ?_⟩
  rw [Array.getElem?_setIfInBounds]
  by_cases e : k = j
  · subst e; rw [if_pos rfl, if_pos (by rw [h.1]; exact hk)]
    have := icells_get hk
    simpa using this.symm
  · rw [if_neg e]; exact h.2 j (by omega)
theorem Cin.done {zs : List Int} {C : Array Value} (h : Cin zs zs.length C) : C = (icells zs).toArray := by
  apply Array.ext_getElem?
  intro j
  by_cases hj : j < zs.length
  · rw [h.2 j hj]; simp
  · rw [Array.getElem?_eq_none (by rw [h.1]; omega), Array.getElem?_eq_none (by simp [icells_len]; omega)]
def Rel19 (zs : List Int) (a : Option Addr) (w : World) (k : Nat) (C : Array Value) (wr : World) : Prop := SlI wr a zs ∧ Blk wr w.heap.size C 2 ∧ Cin zs k C ∧ Below w.heap.size w wr
theorem SlI.setOwn {w wr : World} {a : Option Addr} {zs : List Int} (h : SlI w a zs) (hb : Below w.heap.size w wr) : SlI wr a zs := h.below hb (Nat.le_refl _)
set_option maxRecDepth 100000 in
set_option maxHeartbeats 400000 in
theorem copy19 (zs : List Int) (a : Option Addr) (cap : Nat) (w : World) (hs : SlI w a zs) (hl : zs.length ≤ 1048576) :
    Calls Try.prog 6 #[.slice a zs.length cap] w fun e w' => e = .returned (.slice (some ⟨w.heap.size, 0, none⟩) zs.length zs.length) ∧ Blk w' w.heap.size (icells zs).toArray 2 ∧ Below w.heap.size w w' := by
  have hmk := make29 zs.length hl
  go_enter Try.func6, Try.ntmps6
  go_wp2_with fail
  go_loopw [4] (fun i wr => ∃ k : Nat, k ≤ zs.length ∧ i = .int .i64 k ∧ ∃ C, Rel19 zs a w k C wr) (fun i _ => zs.length - (intOf i).toNat)
  case atStart =>
    have hb : Below w.heap.size w (w.alloc (.cells (zrow zs.length) 2)) := (Below.refl _ _).alloc (Nat.le_refl _) _
    exact ⟨0, by omega, rfl, _, hs.below hb (Nat.le_refl _), Blk.new _ _ _ _ rfl, ⟨zrow_size _, fun j hj => absurd hj (by omega)⟩, hb⟩
  case round =>
    obtain ⟨k, hk, rfl, C, HR⟩ := hrel
    by_cases hlt : k < zs.length
    · rcases HR.1 with hz | ⟨b, off, ha, hc⟩
      · subst hz; simp at hlt
      · subst ha
        have hck := hc k hlt
        obtain ⟨z, hz⟩ : ∃ z, z = zs.getD k 0 := ⟨_, rfl⟩
        rw [← hz] at hck
        obtain ⟨old, ho⟩ : ∃ old, wr.cell? ⟨w.heap.size, k, none⟩ = some old := ⟨_, HR.2.1.cell (Array.getElem?_eq_getElem (by rw [HR.2.2.1.1]; exact hlt))⟩
        have hf := HR.2.1.fro k
        have hst := HR.2.2.1.step hlt
        rw [← hz] at hst
        have hbe := HR.2.2.2.setCell (p := ⟨w.heap.size, k, none⟩) (Nat.le_refl _) (.int .i64 z)
        have K := hidd (show Rel19 zs (some ⟨b, off, none⟩) w (k + 1) _ _ from ⟨hs.below hbe (Nat.le_refl _), HR.2.1.same k (.int .i64 z), hst, hbe⟩)
        have HS := hidd hs
        clear hz hc hst hbe HR hs
        go_wp2_with fail
        go_roundw
        case rel => exact ⟨k + 1, by omega, by go_num, _, K.out⟩
        case measure => simp [intOf]; omega
    · have hke : k = zs.length := by omega
      subst hke
      have hC := HR.2.2.1.done
      subst hC
      go_wp2_with fail
      go_ret
      exact ⟨rfl, HR.2.1, HR.2.2.2⟩
def Rel22 (zs : List Int) (a b : Option Addr) (w : World) (wr : World) : Prop := SlI wr a zs ∧ SlI wr b zs ∧ Below w.heap.size w wr
set_option maxRecDepth 100000 in
set_option maxHeartbeats 400000 in
theorem eq22 (zs : List Int) (a b : Option Addr) (cap cap' : Nat) (w : World) (hs : SlI w a zs) (ht : SlI w b zs) (hl : zs.length ≤ 1048576) :
    Calls Try.prog 8 #[.slice a zs.length cap, .slice b zs.length cap'] w fun e w' => e = .returned (.bool true) ∧ Below w.heap.size w w' := by
  have hne : ((zs.length : Int) != (zs.length : Int)) = false := by simp
  go_enter Try.func8, Try.ntmps8
  go_wp2_with fail
  go_loopw [5] (fun i wr => ∃ k : Nat, k ≤ zs.length ∧ i = .int .i64 k ∧ Rel22 zs a b w wr) (fun i _ => zs.length - (intOf i).toNat)
  case atStart => exact ⟨0, by omega, rfl, hs, ht, Below.refl _ _⟩
  case round =>
    obtain ⟨k, hk, rfl, HR⟩ := hrel
    by_cases hlt : k < zs.length
    · rcases HR.1 with hz | ⟨x, o, ha, hc⟩
      · subst hz; simp at hlt
      · rcases HR.2.1 with hz | ⟨y, p, hb, hd⟩
        · subst hz; simp at hlt
        · subst ha
          subst hb
          have hck := hc k hlt
          have hdk := hd k hlt
          obtain ⟨z, hz⟩ : ∃ z, z = zs.getD k 0 := ⟨_, rfl⟩
          rw [← hz] at hck hdk
          have hzz : (z != z) = false := by simp
          have K := hidd HR
          clear hz hc hd HR hs ht
          go_wp2_with fail
          go_quiet (fail)
          go_wp2
          go_roundw
          case rel => exact ⟨k + 1, by omega, by go_num, K.out.1.below (below_drewN (Below.refl _ _) _) (Nat.le_refl _), K.out.2.1.below (below_drewN (Below.refl _ _) _) (Nat.le_refl _), below_drewN K.out.2.2 _⟩
          case measure => simp [intOf]; omega
    · have hke : k = zs.length := by omega
      subst hke
      go_wp2_with fail
      go_ret
      exact ⟨rfl, HR.2.2⟩
set_option maxRecDepth 100000 in
set_option maxHeartbeats 400000 in
theorem all51 (zs : List Int) (a : Option Addr) (cap : Nat) (k : Int) (w : World) (hs : SlI w a zs) (hl : zs.length ≤ 9223372036854775807) :
    Calls Try.prog 70 #[.slice a zs.length cap, .int .i64 k] w fun e w' => e = .returned (.bool (allB zs k)) ∧ w = w' := by
  go_enter Try.func70, Try.ntmps70
  go_wp2_with fail
  go_loop [9] (fun i => ∃ j : Nat, j ≤ zs.length ∧ i = .int .i64 j ∧ ∀ m, m < j → belowB (zs.getD m 0) k = true) (fun i => zs.length - (intOf i).toNat)
  case atStart => exact ⟨0, by omega, rfl, fun m hm => absurd hm (by omega)⟩
  case round =>
    obtain ⟨j, hj, rfl, hall⟩ := hrel
    have HA := hidd hall
    clear hall
    by_cases hlt : j < zs.length
    · rcases hs with hs | ⟨b, off, rfl, hc⟩
      · subst hs; simp at hlt
      · have hcj := hc j hlt
        obtain ⟨z, hz⟩ : ∃ z, z = zs.getD j 0 := ⟨_, rfl⟩
        rw [← hz] at hcj
        have HZ := hidd hz
        have HC := hidd hc
        clear hz hc
        cases hb : belowB z k with
        | true =>
          have HB := hidd hb
          clear hb
          go_wp2_with (go_at_call 75; refine (below61 _ _ _).mono ?_; rintro e w' ⟨rfl, rfl⟩; rw [HB.out])
          go_round
          case rel => exact ⟨j + 1, by omega, by go_num, fun m hm => by
            by_cases e : m = j
            · subst e; rw [← HZ.out]; exact HB.out
            · exact HA.out m (by omega)⟩
          case measure => simp [intOf]; omega
        | false =>
          have HB := hidd hb
          have H := hidd (allB_no hlt (by rw [← HZ.out]; exact hb))
          clear hb
          go_wp2_with (go_at_call 75; refine (below61 _ _ _).mono ?_; rintro e w' ⟨rfl, rfl⟩; rw [HB.out])
          go_ret
          exact ⟨by rw [H.out]; rfl, rfl⟩
    · have hje : j = zs.length := by omega
      subst hje
      have H := hidd (allB_yes HA.out)
      go_wp2_with fail
      go_ret
      exact ⟨by rw [H.out]; rfl, rfl⟩
end Go.Proofs.Ytidengcihakijaa
/- PutPoint: the program and its model. -/
namespace Go.Proofs.Ytidengcihakijaa
set_option linter.unusedVariables false
set_option linter.unusedSimpArgs false
open Go Go.RowKit
/-- The bytes with numbers put in from a place on. -/
def putK (bs : List Nat) (E : Nat) (zs : List Int) : Nat → List Nat
  | 0 => bs
  | k + 1 => (putK bs E zs k).set (E + k) (zs.getD k 0).toNat
theorem putK_bys {bs : List Nat} (hb : Bys bs) (E : Nat) {zs : List Int} (hz : ∀ j, j < zs.length → 0 ≤ zs.getD j 0 ∧ zs.getD j 0 < 256) : ∀ k, k ≤ zs.length → Bys (putK bs E zs k)
  | 0, _ => hb
  | k + 1, h => (putK_bys hb E hz k (by omega)).set _ _ (by have := hz k (by omega); omega)
theorem eix_last {i n : Int} (h0 : 0 ≤ i) (h : i < n) : eix i n = edg n + i := by unfold eix; rw [if_neg (by omega)]
theorem edg_last {n : Int} (h1 : 1 ≤ n) (h2 : n ≤ 16) : edg n + n ≤ 136 := by
  have := edg_step n
  have := (edg_bd (show 1 ≤ n + 1 by omega) (show n + 1 ≤ 17 by omega)).2
  omega
theorem below_at61 {B : Nat} {a w : World} (h : Below B a w) {b o : Nat} (hb : B ≤ b) (v : Value) : Below B a (w.setCell ⟨b, o, none⟩ v) := h.setCell hb v
def RelP (n k : Int) (bs : List Nat) (E : Nat) (zs : List Int) (a : Option Addr) (w : World) (j : Nat) (wr : World) : Prop :=
  Blk wr w.heap.size (ccells n k (putK bs E zs j)).toArray 32 ∧ Blk wr (w.heap.size + 1) (ccells 0 0 zbl).toArray 32 ∧ SlI wr a zs ∧ Below w.heap.size w wr
def codeP (n k : Int) (bs : List Nat) (zs : List Int) : Int := if isCol n k bs then (if (zs.length : Int) = n ∧ allB zs k = true then (if n = 17 then 3 else 0) else 2) else 1
def ppN (n k : Int) (bs : List Nat) (zs : List Int) : Int := if codeP n k bs zs = 0 then n + 1 else 0
def ppK (n k : Int) (bs : List Nat) (zs : List Int) : Int := if codeP n k bs zs = 0 then k else 0
def ppB (n k : Int) (bs : List Nat) (zs : List Int) : List Nat := if codeP n k bs zs = 0 then putK bs (edg n).toNat zs zs.length else zbl
/-- What PutPoint returns. -/
def outP (n k : Int) (bs : List Nat) (zs : List Int) : Value := .tuple #[.agg (ccells (ppN n k bs zs) (ppK n k bs zs) (ppB n k bs zs)).toArray, .int .i64 (codeP n k bs zs)]
theorem outP_bad {n k : Int} {bs : List Nat} {zs : List Int} {m : Int} (h : codeP n k bs zs = m) (hm : m ≠ 0) : outP n k bs zs = .tuple #[.agg (ccells 0 0 zbl).toArray, .int .i64 m] := by
  simp [outP, ppN, ppK, ppB, h, hm]
theorem outP_good {n k : Int} {bs : List Nat} {zs : List Int} (h : codeP n k bs zs = 0) : outP n k bs zs = .tuple #[.agg (ccells (n + 1) k (putK bs (edg n).toNat zs zs.length)).toArray, .int .i64 0] := by
  simp [outP, ppN, ppK, ppB, h]
theorem codeP_1 {n k : Int} {bs : List Nat} {zs : List Int} (h : isCol n k bs = false) : codeP n k bs zs = 1 := by simp [codeP, h]
theorem codeP_2 {n k : Int} {bs : List Nat} {zs : List Int} (h : isCol n k bs = true) (h2 : ¬ (zs.length : Int) = n ∨ allB zs k = false) : codeP n k bs zs = 2 := by
  unfold codeP; rw [if_pos h, if_neg]
  rintro ⟨h3, h4⟩
  rcases h2 with h2 | h2
  · exact h2 h3
  · rw [h4] at h2; cases h2
theorem codeP_3 {n k : Int} {bs : List Nat} {zs : List Int} (h : isCol n k bs = true) (h2 : (zs.length : Int) = n) (h3 : allB zs k = true) (h4 : n = 17) : codeP n k bs zs = 3 := by
  unfold codeP; rw [if_pos h, if_pos ⟨h2, h3⟩, if_pos h4]
theorem codeP_0 {n k : Int} {bs : List Nat} {zs : List Int} (h : isCol n k bs = true) (h2 : (zs.length : Int) = n) (h3 : allB zs k = true) (h4 : ¬ n = 17) : codeP n k bs zs = 0 := by
  unfold codeP; rw [if_pos h, if_pos ⟨h2, h3⟩, if_neg h4]
theorem ppB_bys {n k : Int} {bs : List Nat} (hb : Bys bs) (zs : List Int) : Bys (ppB n k bs zs) := by
  unfold ppB
  split
  · rename_i h
    unfold codeP at h
    split at h
    · rename_i hc
      split at h
      · rename_i h2
        have := isCol_bd hc
        exact putK_bys hb _ (fun j hj => by have := allB_get h2.2 hj; omega) _ (Nat.le_refl _)
      · omega
    · omega
  · exact zbl_bys
end Go.Proofs.Ytidengcihakijaa
/- Lists that a call makes: what is owned, marked and held. -/
namespace Go.Proofs.Ytidengcihakijaa
set_option linter.unusedVariables false
set_option linter.unusedSimpArgs false
open Go Go.RowKit
theorem own_below {w w' : World} {base : Nat} {e : TypeId} {size : Nat} {v : Value} {n : Nat} {xs : List Value} (h : w.ownsRow base e size v n xs) {B : Nat} (hb : Below B w w') (hB : w.heap.size ≤ B) : w'.ownsRow base e size v n xs := by
  refine ⟨h.1, ?_⟩
  rcases h.2 with h2 | ⟨g, cap, cur, hv, hg, hc, r⟩
  · exact .inl h2
  · have hlt : g < w.heap.size := (Array.getElem?_eq_some_iff.1 hc).1
    exact .inr ⟨g, cap, cur, hv, hg, by rw [hb.block g (by omega)]; exact hc, r⟩
/-- A list of the call's own, from block B on. -/
def OwnL (w : World) (B : Nat) (a : Option Addr) (zs : List Int) : Prop :=
  zs = [] ∨ ∃ g C, B ≤ g ∧ a = some ⟨g, 0, none⟩ ∧ Blk w g C 2 ∧ zs.length ≤ C.size ∧ ∀ j, j < zs.length → C[j]? = some (.int .i64 (zs.getD j 0))
theorem OwnL.below {w w' : World} {B : Nat} {a : Option Addr} {zs : List Int} (h : OwnL w B a zs) {B' : Nat} (hb : Below B' w w') (hB : w.heap.size ≤ B') : OwnL w' B a zs := by
  rcases h with h | ⟨g, C, h1, h2, h3, h4⟩
  · exact .inl h
  · exact .inr ⟨g, C, h1, h2, h3.below hb (by have := h3.lt; omega), h4⟩
/-- What lies wholly below a block that is written stays. -/
theorem OwnL.sl {w : World} {B : Nat} {a : Option Addr} {zs : List Int} (h : OwnL w B a zs) : SlI w a zs := by
  rcases h with h | ⟨g, C, h1, h2, h3, h4, h5⟩
  · exact .inl h
  · exact .inr ⟨g, 0, h2, fun j hj => by rw [Nat.zero_add]; exact h3.cell (h5 j hj)⟩
theorem own_list {w : World} {B : Nat} {v : Value} {zs : List Int} (h : w.ownsRow B 2 1 v zs.length (icells zs)) : ∃ a cap, v = .slice a zs.length cap ∧ OwnL w B a zs := by
  obtain ⟨_, h | ⟨g, cap, cur, hv, hg, hc, hn, _, hs, ht⟩⟩ := h
  · obtain ⟨rfl, h0⟩ := h
    have hz : zs = [] := List.length_eq_zero_iff.1 h0
    subst hz
    exact ⟨none, 0, rfl, .inl rfl⟩
  · refine ⟨some ⟨g, 0, none⟩, cap, hv, .inr ⟨g, cur, hg, rfl, hc, by omega, fun j hj => ?_⟩⟩
    have h1 : (cur.toList.take (zs.length * 1))[j]? = (icells zs)[j]? := by rw [ht]
    rw [List.getElem?_take, if_pos (by omega)] at h1
    have h2 := icells_get hj
    simp only [List.getElem?_toArray] at h2
    rw [h2] at h1
    simpa using h1
/-- The numbers that the laws lay into a list. -/
def marks (k : Int) (n : Nat) : List Int := (List.range n).map fun (j : Nat) => k + (j : Int)
theorem marks_len (k : Int) (n : Nat) : (marks k n).length = n := by simp [marks]
theorem marks_get {k : Int} {n j : Nat} (h : j < n) : (marks k n).getD j 0 = k + (j : Int) := by simp [marks, List.getD, h]
def RelM (C : Array Value) (k : Int) (g : Nat) (w : World) (j : Nat) (D : Array Value) (wr : World) : Prop :=
  Blk wr g D 2 ∧ D.size = C.size ∧ (∀ m, m < j → D[m]? = some (.int .i64 (k + (m : Int)))) ∧ Below g w wr
end Go.Proofs.Ytidengcihakijaa
