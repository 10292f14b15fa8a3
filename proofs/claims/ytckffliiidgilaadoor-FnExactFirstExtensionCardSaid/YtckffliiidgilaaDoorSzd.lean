/- A colouring with sizes: its cells; sizedOf. -/
import Derived.Test.YtckffliiidgilaaDoorEntb
import Derived.Test.YtckffliiidgilaaDoorBad
import Derived.Deep.MidRow
namespace Go.Proofs.YtckffliiidgilaaDoor
set_option linter.unusedVariables false
set_option linter.unusedSimpArgs false
open Go Go.RowKit Go.Extern.Stop Go.Stop Go.Extern
/-- The cells of a colouring, and a list behind them. -/
def scl (n k : Int) (bs : List Nat) (a : Option Addr) (l c : Nat) : List Value := ccells n k bs ++ [.slice a l c]
theorem cc138 {n k : Int} {bs : List Nat} (hb : Bys bs) : (ccells n k bs).length = 138 := by rw [ccells_len, hb.len]
theorem scl_len {n k : Int} {bs : List Nat} (hb : Bys bs) (a : Option Addr) (l c : Nat) : (scl n k bs a l c).length = 139 := by simp [scl, cc138 hb]
theorem scl_fst {n k : Int} {bs : List Nat} {a : Option Addr} {l c : Nat} (j : Nat) (v : Value) (h : (ccells n k bs)[j]? = some v) : (scl n k bs a l c).toArray[0 + j]? = some v := by
  have hj : j < (ccells n k bs).length := (List.getElem?_eq_some_iff.1 h).1
  simp only [scl, Nat.zero_add, List.getElem?_toArray]
  rw [List.getElem?_append_left hj]; exact h
theorem scl_snd {n k : Int} {bs : List Nat} (hb : Bys bs) {a : Option Addr} {l c : Nat} : (scl n k bs a l c).toArray[138]? = some (.slice a l c) := by
  simp only [scl, List.getElem?_toArray]
  rw [List.getElem?_append_right (by rw [cc138 hb]; omega), cc138 hb]; rfl
theorem scl_one {n k : Int} {bs : List Nat} {a : Option Addr} {l c : Nat} : (scl n k bs a l c).toArray.all (·.oneCell') = true := by
  have h1 := ccells_one n k bs
  simp only [Array.all_eq_true_iff_forall_mem, List.mem_toArray] at *
  intro v hv
  rcases List.mem_append.1 hv with h | h
  · exact h1 v h
  · simp at h; subst h; rfl
theorem info56 : (Tryd.prog.info? 56).map (fun i => (i.zero, i.size)) = some (some (.agg (scl 0 0 zbl none 0 0).toArray), 139) := by kernel_rfl
theorem zero56 : ∀ w, (zeroValue 56).run Tryd.prog w = .ok (.agg (scl 0 0 zbl none 0 0).toArray) w := (zero_of_info info56).1
theorem size56 : (Tryd.prog.info? 56).map (·.size) = some 139 := (zero_of_info info56).2
theorem size_s56 {n k : Int} {bs : List Nat} (hb : Bys bs) (a : Option Addr) (l c : Nat) : (Tryd.prog.info? 56).map (·.size) = some (scl n k bs a l c).toArray.size := by rw [size56]; simp [scl_len hb]
theorem size_l28 (n k : Int) {bs : List Nat} (hb : Bys bs) : (Tryd.prog.info? 28).map (·.size) = some (ccells n k bs).length := by rw [size26, cc138 hb]
theorem built56z : Tryd.prog.built 56 [] = some (scl 0 0 zbl none 0 0).toArray := by kernel_rfl
theorem wpList_zero56 {ops : Array Oper} {rest : List Oper} {o : Oper} {a : Act} {w : World} {Q : Exit → Act → World → Prop} (hg : o.guard = none) (ho : o.op = .build 56 #[])
    (h : wpList Tryd.prog ops Q rest (a.put o.dst (.agg (scl 0 0 zbl none 0 0).toArray)) w) : wpList Tryd.prog ops Q (o :: rest) a w := by
  obtain ⟨Z, hZ⟩ : ∃ Z, Z = (scl 0 0 zbl none 0 0).toArray := ⟨_, rfl⟩
  have hb : Tryd.prog.built 56 [] = some Z := by rw [hZ]; exact built56z
  rw [← hZ] at h
  clear hZ
  have e : ((#[] : Array (Nat × Operand)).map fun (i, x) => (i, a.eval x)).toList = [] := by simp
  refine wpList_build hg 56 #[] ho ?_ ?_
  · rw [e, hb]; rfl
  · rw [e, hb]; exact h
theorem fold_set (off : Nat) (vs : List Value) : ∀ (C : Array Value) (s : Nat), (vs.zipIdx s).foldl (fun cs x => cs.setIfInBounds (off + x.2) x.1) C = setFrom C (off + s) vs := by
  induction vs with
  | nil => intro C s; rfl
  | cons v r ih => intro C s; rw [List.zipIdx_cons, List.foldl_cons, ih, setFrom, Nat.add_assoc]
theorem scl_set1 {n k n' k' : Int} {bs bs' : List Nat} (hb : Bys bs) (hb' : Bys bs') (a : Option Addr) (l c : Nat) : setFrom (scl n k bs a l c).toArray 0 (ccells n' k' bs') = (scl n' k' bs' a l c).toArray := by
  apply Array.ext_getElem?
  intro j
  rw [setFrom_get _ _ _ _ (by simp [scl_len hb, cc138 hb']), cc138 hb']
  simp only [scl, List.getElem?_toArray]
  by_cases h : j < 138
  · rw [if_pos (by omega), List.getElem?_append_left (by rw [cc138 hb']; exact h)]; rfl
  · rw [if_neg (by omega), List.getElem?_append_right (by rw [cc138 hb]; omega), List.getElem?_append_right (by rw [cc138 hb']; omega), cc138 hb, cc138 hb']
theorem scl_set2 {n k : Int} {bs : List Nat} (hb : Bys bs) (a a' : Option Addr) (l c l' c' : Nat) : (scl n k bs a l c).toArray.setIfInBounds 138 (.slice a' l' c') = (scl n k bs a' l' c').toArray := by
  apply Array.ext_getElem?
  intro j
  simp only [scl, List.setIfInBounds_toArray, List.getElem?_toArray]
  rw [List.set_append_right _ _ (by rw [cc138 hb]; omega), cc138 hb]
  rfl
theorem built56 {n k : Int} {bs : List Nat} (hb : Bys bs) (a : Option Addr) (l c : Nat) : Tryd.prog.built 56 [(0, .agg (ccells n k bs).toArray), (1, .slice a l c)] = some (scl n k bs a l c).toArray := by
  obtain ⟨it, h1, h2⟩ := Option.map_eq_some_iff.1 info56
  obtain ⟨ie, h3, h4⟩ := Option.map_eq_some_iff.1 size26
  obtain ⟨ig, h6, h7⟩ := Option.map_eq_some_iff.1 (show (Tryd.prog.info? 25).map (·.size) = some 1 by kernel_rfl)
  have h5 : it.zero = some (.agg (scl 0 0 zbl none 0 0).toArray) := congrArg Prod.fst h2
  unfold Program.built
  simp only [h1, Tryd.underlying56, Tryd.underlying55, h5, List.mapM_cons, List.mapM_nil, h3, h6, Option.map_some, h4, h7]
  show Instr.fill _ (scl 0 0 zbl none 0 0).toArray _ = _
  simp only [Instr.fill, Value.cells, List.getElem?_toArray]
  have L1 : (ccells n k bs).toArray.size = 138 := by simp [cc138 hb]
  have Z1 : (scl 0 0 zbl none 0 0).toArray.size = 139 := by simp [scl_len zbl_bys]
  have e1 : (ccells n k bs).toArray.zipIdx.foldl (fun cs x => cs.setIfInBounds (0 + x.2) x.1) (scl 0 0 zbl none 0 0).toArray = (scl n k bs none 0 0).toArray := by
    rw [← scl_set1 (n := 0) (k := 0) zbl_bys hb, ← Array.foldl_toList, Array.toList_zipIdx]
    exact fold_set 0 _ _ 0
  have Z2 : (scl n k bs none 0 0).toArray.size = 139 := by simp [scl_len hb]
  show (if (decide ((ccells n k bs).toArray.size ≠ 138) || decide (0 + (ccells n k bs).toArray.size > (scl 0 0 zbl none 0 0).toArray.size)) = true then none else
    if (decide ((#[Value.slice a l c] : Array Value).size ≠ 1) || decide (138 + (#[Value.slice a l c] : Array Value).size > (Array.foldl (fun cs x => cs.setIfInBounds (0 + x.snd) x.fst) (scl 0 0 zbl none 0 0).toArray (ccells n k bs).toArray.zipIdx).size)) = true then none else
    some ((Array.foldl (fun cs x => cs.setIfInBounds (0 + x.snd) x.fst) (scl 0 0 zbl none 0 0).toArray (ccells n k bs).toArray.zipIdx).setIfInBounds 138 (.slice a l c))) = _
  rw [e1, L1, Z1, Z2, if_neg (by simp), if_neg (by simp), scl_set2 hb]
theorem wpList_build56 {n k : Int} {bs : List Nat} (hb : Bys bs) {aa : Option Addr} {l c : Nat} {ops : Array Oper} {rest : List Oper} {o : Oper} {a : Act} {w : World} {Q : Exit → Act → World → Prop} (hg : o.guard = none) (x y : Operand) (ho : o.op = .build 56 #[(0, x), (1, y)])
    (hx : a.eval x = .agg (ccells n k bs).toArray) (hy : a.eval y = .slice aa l c)
    (h : wpList Tryd.prog ops Q rest (a.put o.dst (.agg (scl n k bs aa l c).toArray)) w) : wpList Tryd.prog ops Q (o :: rest) a w := by
  have hbu := built56 (n := n) (k := k) hb aa l c
  obtain ⟨D, hD⟩ : ∃ D, D = (scl n k bs aa l c).toArray := ⟨_, rfl⟩
  rw [← hD] at hbu h
  have e : ((#[(0, x), (1, y)] : Array (Nat × Operand)).map fun (i, x) => (i, a.eval x)).toList = [(0, .agg (ccells n k bs).toArray), (1, .slice aa l c)] := by simp [hx, hy]
  refine wpList_build hg 56 _ ho ?_ ?_
  · rw [e, hbu]; rfl
  · rw [e, hbu]; exact h
end Go.Proofs.YtckffliiidgilaaDoor
