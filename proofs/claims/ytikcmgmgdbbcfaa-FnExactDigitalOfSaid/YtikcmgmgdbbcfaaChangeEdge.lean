/- ChangeEdge: the program and its model. -/
import Derived.Test.YtikcmgmgdbbcfaaRes
import Derived.Test.YtikcmgmgdbbcfaaColourOf
namespace Go.Proofs.Ytikcmgmgdbbcfaa
set_option linter.unusedVariables false
set_option linter.unusedSimpArgs false
open Go Go.RowKit
def setAt (bs : List Nat) (i j c : Int) : List Nat := bs.set (eix i j).toNat c.toNat
theorem setAt_bys {bs : List Nat} (hb : Bys bs) (i j : Int) {c : Int} (h0 : 0 ≤ c) (h1 : c < 256) : Bys (setAt bs i j c) := hb.set _ _ (by omega)
def codeC (n k : Int) (bs : List Nat) (i j c : Int) : Int := if isCol n k bs then (if pairB i j n && belowB c k then 0 else 2) else 1
def chN (n k : Int) (bs : List Nat) (i j c : Int) : Int := if codeC n k bs i j c = 0 then n else 0
def chK (n k : Int) (bs : List Nat) (i j c : Int) : Int := if codeC n k bs i j c = 0 then k else 0
def chB (n k : Int) (bs : List Nat) (i j c : Int) : List Nat := if codeC n k bs i j c = 0 then setAt bs i j c else zbl
/-- What ChangeEdge returns. -/
def chOut (n k : Int) (bs : List Nat) (i j c : Int) : Value := .tuple #[.agg (ccells (chN n k bs i j c) (chK n k bs i j c) (chB n k bs i j c)).toArray, .int .i64 (codeC n k bs i j c)]
theorem chOut_bad {n k : Int} {bs : List Nat} {i j c m : Int} (h : codeC n k bs i j c = m) (hm : m ≠ 0) : chOut n k bs i j c = .tuple #[.agg (ccells 0 0 zbl).toArray, .int .i64 m] := by
  simp [chOut, chN, chK, chB, h, hm]
theorem chOut_good {n k : Int} {bs : List Nat} {i j c : Int} (h : codeC n k bs i j c = 0) : chOut n k bs i j c = .tuple #[.agg (ccells n k (setAt bs i j c)).toArray, .int .i64 0] := by
  simp [chOut, chN, chK, chB, h]
theorem codeC_1 {n k : Int} {bs : List Nat} {i j c : Int} (h : isCol n k bs = false) : codeC n k bs i j c = 1 := by simp [codeC, h]
theorem codeC_2 {n k : Int} {bs : List Nat} {i j c : Int} (h : isCol n k bs = true) (h2 : (pairB i j n && belowB c k) = false) : codeC n k bs i j c = 2 := by
  unfold codeC; rw [if_pos h, h2]; rfl
theorem codeC_0 {n k : Int} {bs : List Nat} {i j c : Int} (h : isCol n k bs = true) (h1 : pairB i j n = true) (h2 : belowB c k = true) : codeC n k bs i j c = 0 := by simp [codeC, h, h1, h2]
theorem codeC_cases (n k : Int) (bs : List Nat) (i j c : Int) : codeC n k bs i j c = 0 ∧ pairB i j n = true ∧ belowB c k = true ∧ isCol n k bs = true ∨ codeC n k bs i j c ≠ 0 := by
  unfold codeC
  cases h : isCol n k bs <;> cases h1 : pairB i j n <;> cases h2 : belowB c k <;> simp
theorem chB_bys {n k : Int} {bs : List Nat} (hb : Bys bs) (i j c : Int) : Bys (chB n k bs i j c) := by
  unfold chB
  rcases codeC_cases n k bs i j c with ⟨h, _, h2, h3⟩ | h
  · rw [if_pos h]
    have := inB_bd h2
    have := isCol_bd h3
    exact setAt_bys hb _ _ (by omega) (by omega)
  · rw [if_neg h]; exact zbl_bys
/-- How a function ends that returns a colouring and a code: the result's row and the code's slot. -/
theorem ret_col {fn : Func} {p u : Tmp} (h : fn.results = #[.cell p 25, .tmp u]) {tmps : Array Value} {w : World} {R : Ending → World → Prop} {g : Nat} {t : TypeId} {n k : Int} {bs : List Nat} (hb : Bys bs) {d : List Deferred}
    (hp : tmps.getD p undef = .pointer (some ⟨g, 0, none⟩)) (hg : Blk w g (ccells n k bs).toArray t) (hd : d = []) {v : Value} (hv : v = .tuple #[.agg (ccells n k bs).toArray, tmps.getD u undef]) (hR : R (.returned v) w) :
    bodyPost Try.prog fn R .ret ⟨tmps, d⟩ w := by
  subst hv
  exact bodyPost_ret (results_row_tmp h tmps w g t _ _ hp hg Try.underlying25 rfl (size_c26 n k hb)) hd hR
theorem after3 {w w1 : World} {C Z : Array Value} {t : TypeId} {o : Obj} (hb1 : Below (((w.alloc (.cells C t)).alloc (.cells Z 25)).alloc o).heap.size (((w.alloc (.cells C t)).alloc (.cells Z 25)).alloc o) w1) :
    Blk w1 w.heap.size C t ∧ Blk w1 (w.heap.size + 1) Z 25 ∧ Below w.heap.size w w1 :=
  ⟨(((Blk.new w C t _ rfl).alloc _).alloc _).below hb1 (by simp; omega), ((Blk.new _ Z 25 _ (by simp)).alloc _).below hb1 (by simp),
    ((((Below.refl _ _).alloc (Nat.le_refl _) _).alloc (by simp) _).alloc (by simp; omega) _).trans (hb1.mono (by simp; omega))⟩
theorem after2 {w w1 : World} {C Z : Array Value} {t : TypeId} (hb1 : Below ((w.alloc (.cells C t)).alloc (.cells Z 25)).heap.size ((w.alloc (.cells C t)).alloc (.cells Z 25)) w1) :
    Blk w1 w.heap.size C t ∧ Blk w1 (w.heap.size + 1) Z 25 ∧ Below w.heap.size w w1 :=
  ⟨((Blk.new w C t _ rfl).alloc _).below hb1 (by simp; omega), (Blk.new _ Z 25 _ (by simp)).below hb1 (by simp),
    (((Below.refl _ _).alloc (Nat.le_refl _) _).alloc (by simp) _).trans (hb1.mono (by simp; omega))⟩
end Go.Proofs.Ytikcmgmgdbbcfaa
