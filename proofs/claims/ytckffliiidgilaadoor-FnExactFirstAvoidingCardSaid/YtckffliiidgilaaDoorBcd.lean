/- My texts Szd, Dor, Dos, Put, Avs, Ccl, Ucl, Cxq, Cxm, Lbq, Lbm, Fsq, Wyq, Clq, Lsp, Frs, in one. -/
import Derived.Test.YtckffliiidgilaaDoorBcc
import Derived.Deep.MidRow
import Derived.Deep.Cut
import Derived.WalkLawsBesides
import Derived.Test.YtckffliiidgilaaDoorBcb
import Derived.StillTailTactics
import Derived.Scope
import Derived.WalkMore
/- A colouring with sizes: its cells; sizedOf. -/
namespace Go.Proofs.YtckffliiidgilaaDoor
set_option linter.unusedVariables false
set_option linter.unusedSimpArgs false
open Go Go.RowKit Go.Extern.Stop Go.Stop Go.Extern
/-- The cells of a colouring, and a list behind them. -/
def scl (n k : Int) (bs : List Nat) (a : Option Addr) (l c : Nat) : List Value := ccells n k bs ++ [.slice a l c]
theorem cc138 {n k : Int} {bs : List Nat} (hb : Bys bs) : (ccells n k bs).length = 138 := by rw [ccells_len, hb.len]
theorem scl_len {n k : Int} {bs : List Nat} (hb : Bys bs) (a : Option Addr) (l c : Nat) : (scl n k bs a l c).length = 139 := by simp [scl, cc138 hb]
theorem scl_fst {n k : Int} {bs : List Nat} {a : Option Addr} {l c : Nat} (j : Nat) (v : Value) (h : (ccells n k bs)[j]? = some v) : (scl n k bs a l c).toArray[0 + j]? = some v := by
  have hj : j < (ccells n k bs).length := (List.getElem?_eq_some_iff.1 h).1
  simp only [scl, Nat.zero_add, List.getElem?_toArray]
  rw [List.getElem?_append_left hj]; exact h
theorem scl_snd {n k : Int} {bs : List Nat} (hb : Bys bs) {a : Option Addr} {l c : Nat} : (scl n k bs a l c).toArray[138]? = some (.slice a l c) := by
  simp only [scl, List.getElem?_toArray]
  rw [List.getElem?_append_right (by rw [cc138 hb]; omega), cc138 hb]; rfl
theorem scl_one {n k : Int} {bs : List Nat} {a : Option Addr} {l c : Nat} : (scl n k bs a l c).toArray.all (·.oneCell') = true := by
  have h1 := ccells_one n k bs
  simp only [Array.all_eq_true_iff_forall_mem, List.mem_toArray] at *
  intro v hv
  rcases List.mem_append.1 hv with h | h
  · exact h1 v h
  · simp at h; subst h; rfl
theorem info56 : (Tryd.prog.info? 56).map (fun i => (i.zero, i.size)) = some (some (.agg (scl 0 0 zbl none 0 0).toArray), 139) := by kernel_rfl
theorem zero56 : ∀ w, (zeroValue 56).run Tryd.prog w = .ok (.agg (scl 0 0 zbl none 0 0).toArray) w := (zero_of_info info56).1
theorem size56 : (Tryd.prog.info? 56).map (·.size) = some 139 := (zero_of_info info56).2
theorem size_s56 {n k : Int} {bs : List Nat} (hb : Bys bs) (a : Option Addr) (l c : Nat) : (Tryd.prog.info? 56).map (·.size) = some (scl n k bs a l c).toArray.size := by rw [size56]; simp [scl_len hb]
theorem size_l28 (n k : Int) {bs : List Nat} (hb : Bys bs) : (Tryd.prog.info? 28).map (·.size) = some (ccells n k bs).length := by rw [size26, cc138 hb]
theorem built56z : Tryd.prog.built 56 [] = some (scl 0 0 zbl none 0 0).toArray := by kernel_rfl
theorem wpList_zero56 {ops : Array Oper} {rest : List Oper} {o : Oper} {a : Act} {w : World} {Q : Exit → Act → World → Prop} (hg : o.guard = none) (ho : o.op = .build 56 #[])
    (h : wpList Tryd.prog ops Q rest (a.put o.dst (.agg (scl 0 0 zbl none 0 0).toArray)) w) : wpList Tryd.prog ops Q (o :: rest) a w := by
  obtain ⟨Z, hZ⟩ : ∃ Z, Z = (scl 0 0 zbl none 0 0).toArray := ⟨_, rfl⟩
  have hb : Tryd.prog.built 56 [] = some Z := by rw [hZ]; exact built56z
  rw [← hZ] at h
  clear hZ
  have e : ((#[] : Array (Nat × Operand)).map fun (i, x) => (i, a.eval x)).toList = [] := by simp
  refine wpList_build hg 56 #[] ho ?_ ?_
  · rw [e, hb]; rfl
  · rw [e, hb]; exact h
theorem fold_set (off : Nat) (vs : List Value) : ∀ (C : Array Value) (s : Nat), (vs.zipIdx s).foldl (fun cs x => cs.setIfInBounds (off + x.2) x.1) C = setFrom C (off + s) vs := by
  induction vs with
  | nil => intro C s; rfl
  | cons v r ih => intro C s; rw [List.zipIdx_cons, List.foldl_cons, ih, setFrom, Nat.add_assoc]
theorem scl_set1 {n k n' k' : Int} {bs bs' : List Nat} (hb : Bys bs) (hb' : Bys bs') (a : Option Addr) (l c : Nat) : setFrom (scl n k bs a l c).toArray 0 (ccells n' k' bs') = (scl n' k' bs' a l c).toArray := by
  apply Array.ext_getElem?
  intro j
  rw [setFrom_get _ _ _ _ (by simp [scl_len hb, cc138 hb']), cc138 hb']
  simp only [scl, List.getElem?_toArray]
  by_cases h : j < 138
  · rw [if_pos (by omega), List.getElem?_append_left (by rw [cc138 hb']; exact h)]; rfl
  · rw [if_neg (by omega), List.getElem?_append_right (by rw [cc138 hb]; omega), List.getElem?_append_right (by rw [cc138 hb']; omega), cc138 hb, cc138 hb']
theorem scl_set2 {n k : Int} {bs : List Nat} (hb : Bys bs) (a a' : Option Addr) (l c l' c' : Nat) : (scl n k bs a l c).toArray.setIfInBounds 138 (.slice a' l' c') = (scl n k bs a' l' c').toArray := by
  apply Array.ext_getElem?
  intro j
  simp only [scl, List.setIfInBounds_toArray, List.getElem?_toArray]
  rw [List.set_append_right _ _ (by rw [cc138 hb]; omega), cc138 hb]
  rfl
theorem built56 {n k : Int} {bs : List Nat} (hb : Bys bs) (a : Option Addr) (l c : Nat) : Tryd.prog.built 56 [(0, .agg (ccells n k bs).toArray), (1, .slice a l c)] = some (scl n k bs a l c).toArray := by
  obtain ⟨it, h1, h2⟩ := Option.map_eq_some_iff.1 info56
  obtain ⟨ie, h3, h4⟩ := Option.map_eq_some_iff.1 size26
  obtain ⟨ig, h6, h7⟩ := Option.map_eq_some_iff.1 (show (Tryd.prog.info? 25).map (·.size) = some 1 by kernel_rfl)
  have h5 : it.zero = some (.agg (scl 0 0 zbl none 0 0).toArray) := congrArg Prod.fst h2
  unfold Program.built
  simp only [h1, Tryd.underlying56, Tryd.underlying55, h5, List.mapM_cons, List.mapM_nil, h3, h6, Option.map_some, h4, h7]
  show Instr.fill _ (scl 0 0 zbl none 0 0).toArray _ = _
  simp only [Instr.fill, Value.cells, List.getElem?_toArray]
  have L1 : (ccells n k bs).toArray.size = 138 := by simp [cc138 hb]
  have Z1 : (scl 0 0 zbl none 0 0).toArray.size = 139 := by simp [scl_len zbl_bys]
  have e1 : (ccells n k bs).toArray.zipIdx.foldl (fun cs x => cs.setIfInBounds (0 + x.2) x.1) (scl 0 0 zbl none 0 0).toArray = (scl n k bs none 0 0).toArray := by
    rw [← scl_set1 (n := 0) (k := 0) zbl_bys hb, ← Array.foldl_toList, Array.toList_zipIdx]
    exact fold_set 0 _ _ 0
  have Z2 : (scl n k bs none 0 0).toArray.size = 139 := by simp [scl_len hb]
  show (if (decide ((ccells n k bs).toArray.size ≠ 138) || decide (0 + (ccells n k bs).toArray.size > (scl 0 0 zbl none 0 0).toArray.size)) = true then none else
    if (decide ((#[Value.slice a l c] : Array Value).size ≠ 1) || decide (138 + (#[Value.slice a l c] : Array Value).size > (Array.foldl (fun cs x => cs.setIfInBounds (0 + x.snd) x.fst) (scl 0 0 zbl none 0 0).toArray (ccells n k bs).toArray.zipIdx).size)) = true then none else
    some ((Array.foldl (fun cs x => cs.setIfInBounds (0 + x.snd) x.fst) (scl 0 0 zbl none 0 0).toArray (ccells n k bs).toArray.zipIdx).setIfInBounds 138 (.slice a l c))) = _
  rw [e1, L1, Z1, Z2, if_neg (by simp), if_neg (by simp), scl_set2 hb]
theorem wpList_build56 {n k : Int} {bs : List Nat} (hb : Bys bs) {aa : Option Addr} {l c : Nat} {ops : Array Oper} {rest : List Oper} {o : Oper} {a : Act} {w : World} {Q : Exit → Act → World → Prop} (hg : o.guard = none) (x y : Operand) (ho : o.op = .build 56 #[(0, x), (1, y)])
    (hx : a.eval x = .agg (ccells n k bs).toArray) (hy : a.eval y = .slice aa l c)
    (h : wpList Tryd.prog ops Q rest (a.put o.dst (.agg (scl n k bs aa l c).toArray)) w) : wpList Tryd.prog ops Q (o :: rest) a w := by
  have hbu := built56 (n := n) (k := k) hb aa l c
  obtain ⟨D, hD⟩ : ∃ D, D = (scl n k bs aa l c).toArray := ⟨_, rfl⟩
  rw [← hD] at hbu h
  have e : ((#[(0, x), (1, y)] : Array (Nat × Operand)).map fun (i, x) => (i, a.eval x)).toList = [(0, .agg (ccells n k bs).toArray), (1, .slice aa l c)] := by simp [hx, hy]
  refine wpList_build hg 56 _ ho ?_ ?_
  · rw [e, hbu]; rfl
  · rw [e, hbu]; exact h
end Go.Proofs.YtckffliiidgilaaDoor
/- enter: the door to sizedOf. -/
namespace Go.Proofs.YtckffliiidgilaaDoor
set_option linter.unusedVariables false
set_option linter.unusedSimpArgs false
open Go Go.RowKit Go.Extern.Stop Go.Stop Go.Extern
set_option maxRecDepth 100000 in
theorem catch_idle (p : Addr) (w : World) :
    CallsD Tryd.prog 89 #[.pointer (some p)] .returning w fun e u' w' => e = .returned (.tuple #[]) ∧ u' = .returning ∧ w' = w := by
  refine callsD_of_wpS Tryd.func89 rfl fun c₀ cs hu => ?_
  apply wpS_seq
  apply wpS_region
  simp [wpOpsS, go_sem, recoverD, hu, Tryd.ntmps89, Exit.thenS, asNil]
  refine wpS_of_wp ?_
  go_wp2
  cases c₀
  simp_all [bodyPostS, results, Tryd.results89]
theorem tm89 (p a b c d e f g : Value) : #[p] ++ (((((((Array.replicate 11 undef).setIfInBounds 3 a).setIfInBounds 4 b).setIfInBounds 2 c).setIfInBounds 5 d).setIfInBounds 6 e).setIfInBounds 0 f).setIfInBounds 1 g = #[p, f, g, c, a, b, d, e, undef, undef, undef, undef] := by apply Array.ext'; simp [List.replicate, List.set]
set_option maxRecDepth 100000 in
set_option maxHeartbeats 400000 in
theorem catch_panicking (b : Nat) (a : Addr) (x : Int) (w : World) (hE : Er w a) (hc : w.cell? ⟨b, 0, none⟩ = some (.int .i64 x)) (hz : w.frozen? ⟨b, 0, none⟩ = false) :
    CallsD Tryd.prog 89 #[.pointer (some ⟨b, 0, none⟩)] (.panicking (pan a)) w fun e u' w' =>
      e = .returned (.tuple #[]) ∧ u' = .panicking [{ v := .iface 147 (.pointer (some a)), recovered := true }] ∧ w' = w.setCell ⟨b, 0, none⟩ (.int .i64 2) := by
  refine callsD_of_wpS Tryd.func89 rfl fun c₀ cs hu => ?_
  unfold pan at hu
  have hA := asE
  have hE2 : w.cell? ⟨0, 0, none⟩ = some (.iface 147 (.pointer (some a))) := hE
  apply wpS_seq
  apply wpS_region
  simp [wpOpsS, go_sem, recoverD, hu, Tryd.ntmps89, Exit.thenS, hA]
  rw [tm89]
  refine wpS_of_wp ?_
  go_wp2_with fail
  refine (is_same a _).mono ?_
  rintro e w1 ⟨rfl, rfl⟩
  go_wp2
  cases c₀
  simp_all [bodyPostS, results, Tryd.results89]
set_option maxRecDepth 100000 in
set_option maxHeartbeats 2000000 in
theorem sized91_ok (n k : Int) (bs : List Nat) (hb : Bys bs) (zs : List Int) (a : Option Addr) (cap : Nat) (w : World) (hs : SlI w a zs) (hl : zs.length ≤ 1048576) (ho : szOk k zs = true) :
    Calls Tryd.prog 91 #[.agg (ccells n k bs).toArray, .slice a zs.length cap] w fun e w' => e = .returned (.agg (scl n k bs a zs.length cap).toArray) ∧ Below w.heap.size w w' := by
  have Hz := zero56
  have HS := hidd (size_c26 n k hb)
  have HC1 := hidd (show (ccells n k bs).toArray[1]? = some (.int .i64 k) from rfl)
  have HZS := hidd (fun W h => sizes30 k zs a cap W h hl)
  have HOK := hidd ho
  have HSL := hidd hs
  have HB := hidd hb
  have HS5 := hidd (size_s56 (n := n) (k := k) hb a zs.length cap)
  have HO5 := hidd (show (scl 0 0 zbl none 0 0).toArray.size = (scl n k bs a zs.length cap).toArray.size by simp [scl_len zbl_bys, scl_len hb])
  have HA5 := hidd (scl_one (n := n) (k := k) (bs := bs) (a := a) (l := zs.length) (c := cap))
  obtain ⟨W2, hW2⟩ : ∃ W2, W2 = (w.alloc (.cells (ccells n k bs).toArray 28)).alloc (.cells (scl 0 0 zbl none 0 0).toArray 56) := ⟨_, rfl⟩
  have g1 : Blk W2 w.heap.size (ccells n k bs).toArray 28 := by rw [hW2]; exact (Blk.new _ _ _ _ rfl).alloc _
  have g2 : Blk W2 (w.heap.size + 1) (scl 0 0 zbl none 0 0).toArray 56 := by rw [hW2]; exact Blk.new _ _ _ _ (by simp)
  have g3 : Below w.heap.size w W2 := by rw [hW2]; exact ((Below.refl _ _).alloc (Nat.le_refl _) _).alloc (by simp) _
  have g4 := g1.cell HC1.out
  have G := hidd (And.intro g1 (And.intro g2 (And.intro g3 (And.intro (g2.rowSame (scl n k bs a zs.length cap).toArray) (below_setRow g3 (show w.heap.size ≤ w.heap.size + 1 by omega) (scl n k bs a zs.length cap).toArray)))))
  clear g1 g2 g3 hs hb ho
  go_enter Tryd.func91, Tryd.ntmps91
  go_upto_region 1 with fail
  rw [← hW2]
  clear hW2
  go_wp2_with fail
  refine (HZS.out _ (HSL.out.below G.out.2.2.1 (Nat.le_refl _))).mono ?_
  rintro e w1 ⟨rfl, rfl⟩
  rw [HOK.out]
  go_wp2_with (first
    | (refine wpList_load_row rfl 28 (.tmp 2) rfl w.heap.size rfl 28 _ (0,0) _ G.out.1 Tryd.underlying28 rfl HS.out ?_)
    | (refine wpList_build56 HB.out rfl (.tmp 11) (.tmp 12) rfl rfl rfl ?_)
    | (refine wpList_store_row rfl 56 (.tmp 4) (.tmp 13) rfl (w.heap.size + 1) _ rfl rfl 56 _ G.out.2.1 HS5.out HO5.out HA5.out ?_))
  exact bodyPost_ret (results_cell_row rfl _ _ (w.heap.size + 1) 56 _ (0,0) _ rfl G.out.2.2.2.1 Tryd.underlying56 rfl HS5.out) rfl ⟨rfl, G.out.2.2.2.2⟩
set_option maxRecDepth 100000 in
set_option maxHeartbeats 2000000 in
theorem sized91_bad (n k : Int) (bs : List Nat) (hb : Bys bs) (zs : List Int) (a : Option Addr) (cap : Nat) (e0 : Addr) (w : World) (hs : SlI w a zs) (hl : zs.length ≤ 1048576) (ho : szOk k zs = false) (hE : Er w e0) :
    Calls Tryd.prog 91 #[.agg (ccells n k bs).toArray, .slice a zs.length cap] w fun e w' => e = .panicked (pan e0) ∧ Below w.heap.size w w' := by
  have Hz := zero56
  have HS := hidd (size_c26 n k hb)
  have HC1 := hidd (show (ccells n k bs).toArray[1]? = some (.int .i64 k) from rfl)
  have HZS := hidd (fun W h => sizes30 k zs a cap W h hl)
  have HOK := hidd ho
  have HSL := hidd hs
  obtain ⟨W2, hW2⟩ : ∃ W2, W2 = (w.alloc (.cells (ccells n k bs).toArray 28)).alloc (.cells (scl 0 0 zbl none 0 0).toArray 56) := ⟨_, rfl⟩
  have g1 : Blk W2 w.heap.size (ccells n k bs).toArray 28 := by rw [hW2]; exact (Blk.new _ _ _ _ rfl).alloc _
  have g3 : Below w.heap.size w W2 := by rw [hW2]; exact ((Below.refl _ _).alloc (Nat.le_refl _) _).alloc (by simp) _
  have g4 := g1.cell HC1.out
  have hE2 : W2.cell? ⟨0, 0, none⟩ = some (.iface 147 (.pointer (some e0))) := hE.below g3 hE.lt
  have G := hidd g3
  clear g1 g3 hs hb ho hE
  go_enter Tryd.func91, Tryd.ntmps91
  go_upto_region 1 with fail
  rw [← hW2]
  clear hW2
  go_wp2_with fail
  refine (HZS.out _ (HSL.out.below G.out (Nat.le_refl _))).mono ?_
  rintro e w1 ⟨rfl, rfl⟩
  rw [HOK.out]
  go_wp2_with fail
  exact ⟨rfl, ⟨rfl, G.out⟩⟩
end Go.Proofs.YtckffliiidgilaaDoor
/- enter: a colouring with sizes and a code. -/
namespace Go.Proofs.YtckffliiidgilaaDoor
set_option linter.unusedVariables false
set_option linter.unusedSimpArgs false
open Go Go.RowKit Go.Extern.Stop Go.Stop Go.Extern
theorem results_row_cell {P : Program} {fn : Func} {p u : Tmp} {ty tz : TypeId} (h : fn.results = #[.cell p ty, .cell u tz]) (tmps : Array Value) (w : World) (g q : Nat) (t : TypeId) (cs : Array Value) (d : TypeDesc) (v : Value)
    (hp : tmps.getD p undef = .pointer (some ⟨g, 0, none⟩)) (hu2 : tmps.getD u undef = .pointer (some ⟨q, 0, none⟩)) (hg : Blk w g cs t)
    (hu : P.underlying ty = some d) (hd : (match d with | .struct _ | .array _ _ => true | _ => false) = true) (hi : (P.info? ty).map (·.size) = some cs.size)
    (hv : (loadVar tz ⟨q, 0, none⟩).run P w = .ok v w) :
    (results fn tmps).run P w = .ok (.tuple #[.agg cs, v]) w := by
  have hp' : tmps[p]?.getD undef = .pointer (some ⟨g, 0, none⟩) := by simpa using hp
  have hu' : tmps[u]?.getD undef = .pointer (some ⟨q, 0, none⟩) := by simpa using hu2
  have h1 := run_loadVar_row w g t ty cs (0, 0) d hg hu hd hi
  simp [results, h, hp', hu', asAddr, Result.andThen, h1, hv]
theorem load_num {w : World} {q : Nat} {x : Int} (h : w.cell? ⟨q, 0, none⟩ = some (.int .i64 x)) : (loadVar 2 ⟨q, 0, none⟩).run Tryd.prog w = .ok (.int .i64 x) w := by
  go_simp
/-- What enter answers. -/
def enS (n k : Int) (bs : List Nat) (zs : List Int) (a : Option Addr) (cap : Nat) : List Value := if szCode n k bs zs = 0 then scl n k bs a zs.length cap else scl 0 0 zbl none 0 0
theorem enS_ok {n k : Int} {bs : List Nat} {zs : List Int} {a : Option Addr} {cap : Nat} (h : szCode n k bs zs = 0) : enS n k bs zs a cap = scl n k bs a zs.length cap := by unfold enS; rw [if_pos h]
theorem enS_bad {n k : Int} {bs : List Nat} {zs : List Int} {a : Option Addr} {cap : Nat} (h : szCode n k bs zs ≠ 0) : enS n k bs zs a cap = scl 0 0 zbl none 0 0 := by unfold enS; rw [if_neg h]
set_option maxRecDepth 100000 in
set_option maxHeartbeats 2000000 in
theorem enter58 (n k : Int) (bs : List Nat) (hb : Bys bs) (zs : List Int) (a : Option Addr) (cap : Nat) (e0 : Addr) (w : World) (hs : SlI w a zs) (hl : zs.length ≤ 1048576) (hE : Er w e0) :
    Calls Tryd.prog 58 #[.agg (ccells n k bs).toArray, .slice a zs.length cap] w fun e w' => e = .returned (.tuple #[.agg (enS n k bs zs a cap).toArray, .int .i64 (szCode n k bs zs)]) ∧ Below w.heap.size w w' := by
  have hmf : ∀ (fn : Fn) (first cap : Array Value) (w : World), (Instr.makeFunc fn first cap).run Tryd.prog w = .ok (.func fn first cap) w := fun _ _ _ _ => rfl
  have Hz := zero56
  have HS := hidd (size_c26 n k hb)
  have HIS := hidd (fun W => implIs_any n k bs hb W)
  have HSL := hidd hs
  have HE := hidd hE
  have HZ5 := hidd (size_s56 (n := 0) (k := 0) zbl_bys none 0 0)
  have HZ1 := hidd (scl_one (n := 0) (k := 0) (bs := zbl) (a := none) (l := 0) (c := 0))
  obtain ⟨W3, hW3⟩ : ∃ W3, W3 = ((w.alloc (.cells (ccells n k bs).toArray 28)).alloc (.cells (scl 0 0 zbl none 0 0).toArray 56)).alloc (.cells #[.int .i64 0] 2) := ⟨_, rfl⟩
  have g1 : Blk W3 w.heap.size (ccells n k bs).toArray 28 := by rw [hW3]; exact ((Blk.new _ _ _ _ rfl).alloc _).alloc _
  have g2 : Blk W3 (w.heap.size + 1) (scl 0 0 zbl none 0 0).toArray 56 := by rw [hW3]; exact (Blk.new _ _ _ _ (by simp)).alloc _
  have g3 : Blk W3 (w.heap.size + 1 + 1) #[.int .i64 0] 2 := by rw [hW3]; exact Blk.new _ _ _ _ (by simp)
  have g4 : Below w.heap.size w W3 := by rw [hW3]; exact (((Below.refl _ _).alloc (Nat.le_refl _) _).alloc (by simp) _).alloc (by simp; omega) _
  have G := hidd (And.intro g1 (And.intro g2 (And.intro g3 g4)))
  clear g1 g2 g3 g4 hs hE
  cases hi : isCol n k bs with
  | false =>
    have hc := szCode_1 (zs := zs) hi
    rw [enS_bad (by rw [hc]; omega), hc]
    have HI := hidd hi
    clear hc hi
    go_enter_defers Tryd.func58, Tryd.ntmps58
    go_upto_region 1 with fail
    rw [← hW3]
    clear hW3
    go_wp2_with (refine wpList_load_row rfl 28 (.tmp 2) rfl w.heap.size rfl 28 _ (0,0) _ G.out.1 Tryd.underlying28 rfl HS.out ?_)
    refine (HIS.out _).mono ?_
    rintro e w1 ⟨rfl, hb1⟩
    rw [HI.out]
    have g2 := G.out.2.1.below hb1 G.out.2.1.lt
    have g3 := G.out.2.2.1.below hb1 G.out.2.2.1.lt
    have g4 := G.out.2.2.2.trans (hb1.mono G.out.2.2.2.size)
    have h5 := g2.rowSame (scl 0 0 zbl none 0 0).toArray
    have h6 := g3.rowOther (w.heap.size + 1) (scl 0 0 zbl none 0 0).toArray (by omega)
    have h7 := below_setRow g4 (show w.heap.size ≤ w.heap.size + 1 by omega) (scl 0 0 zbl none 0 0).toArray
    have h8 := h6.cell (j := 0) rfl
    have h9 := h6.fro 0
    have hA := h5.other ⟨w.heap.size + 1 + 1, 0, none⟩ (.int .i64 1) (by simp)
    have hB := h6.same 0 (.int .i64 1)
    have hC := h7.setCell (p := ⟨w.heap.size + 1 + 1, 0, none⟩) (by simp; omega) (.int .i64 1)
    have K := hidd (And.intro hA (And.intro (hB.cell (j := 0) rfl) hC))
    have K2 := hidd g2
    clear g2 g3 g4 h5 h6 h7 hA hB hC hb1
    go_wp2_with (first
      | (refine wpList_zero56 rfl rfl ?_)
      | (refine wpList_store_row rfl 56 (.tmp 4) (.tmp 9) rfl (w.heap.size + 1) _ rfl rfl 56 _ K2.out HZ5.out rfl HZ1.out ?_))
    exact ⟨_, results_row_cell (fn := Tryd.f58) (p := 4) (u := 5) rfl _ _ (w.heap.size + 1) (w.heap.size + 1 + 1) 56 _ _ (.int .i64 1) rfl rfl K.out.1 Tryd.underlying56 rfl HZ5.out (load_num K.out.2.1), rfl, K.out.2.2⟩
  | true =>
    obtain ⟨n1, n2, k1, k2⟩ := isCol_bd hi
    cases ho : szOk k zs with
    | true =>
      have hc := szCode_0 hi ho
      rw [enS_ok hc, hc]
      have HI := hidd hi
      have HSD := hidd (fun W h => sized91_ok n k bs hb zs a cap W h hl ho)
      have HS5 := hidd (size_s56 (n := n) (k := k) hb a zs.length cap)
      have HO5 := hidd (show (scl 0 0 zbl none 0 0).toArray.size = (scl n k bs a zs.length cap).toArray.size by simp [scl_len zbl_bys, scl_len hb])
      have HA5 := hidd (scl_one (n := n) (k := k) (bs := bs) (a := a) (l := zs.length) (c := cap))
      clear hc hi ho
      go_enter_defers Tryd.func58, Tryd.ntmps58
      go_upto_region 1 with fail
      rw [← hW3]
      clear hW3
      go_wp2_with (refine wpList_load_row rfl 28 (.tmp 2) rfl w.heap.size rfl 28 _ (0,0) _ G.out.1 Tryd.underlying28 rfl HS.out ?_)
      refine (HIS.out _).mono ?_
      rintro e w1 ⟨rfl, hb1⟩
      rw [HI.out]
      have K1 := hidd (And.intro (G.out.1.below hb1 G.out.1.lt) (And.intro (G.out.2.1.below hb1 G.out.2.1.lt) (And.intro (G.out.2.2.1.below hb1 G.out.2.2.1.lt) (G.out.2.2.2.trans (hb1.mono G.out.2.2.2.size)))))
      clear hb1
      go_wp2_with (refine wpList_load_row rfl 28 (.tmp 2) rfl w.heap.size rfl 28 _ (0,0) _ K1.out.1 Tryd.underlying28 rfl HS.out ?_)
      refine (HSD.out _ (HSL.out.below K1.out.2.2.2 (Nat.le_refl _))).mono ?_
      rintro e w2 ⟨rfl, hb2⟩
      have g2 := K1.out.2.1.below hb2 K1.out.2.1.lt
      have g3 := K1.out.2.2.1.below hb2 K1.out.2.2.1.lt
      have g4 := K1.out.2.2.2.trans (hb2.mono K1.out.2.2.2.size)
      have h5 := g2.rowSame (scl n k bs a zs.length cap).toArray
      have h6 := g3.rowOther (w.heap.size + 1) (scl n k bs a zs.length cap).toArray (by omega)
      have h7 := below_setRow g4 (show w.heap.size ≤ w.heap.size + 1 by omega) (scl n k bs a zs.length cap).toArray
      have h8 := h6.cell (j := 0) rfl
      have h9 := h6.fro 0
      have hA := h5.other ⟨w.heap.size + 1 + 1, 0, none⟩ (.int .i64 0) (by simp)
      have hB := h6.same 0 (.int .i64 0)
      have hC := h7.setCell (p := ⟨w.heap.size + 1 + 1, 0, none⟩) (by simp; omega) (.int .i64 0)
      have K := hidd (And.intro hA (And.intro (hB.cell (j := 0) rfl) hC))
      have K2 := hidd g2
      clear g2 g3 g4 h5 h6 h7 hA hB hC hb2
      go_wp2_with (first
        | (refine wpList_store_row rfl 56 (.tmp 4) (.tmp 13) rfl (w.heap.size + 1) _ rfl rfl 56 _ K2.out HS5.out HO5.out HA5.out ?_))
      refine leaves_cons (f := 89) (args := #[.pointer (some ⟨w.heap.size + 1 + 1, 0, none⟩)]) (by simp) (by simp [go_sem]) ?_
      refine (catch_idle ⟨w.heap.size + 1 + 1, 0, none⟩ _).mono ?_
      rintro e u' w'' ⟨rfl, rfl, rfl⟩
      exact ⟨_, results_row_cell (fn := Tryd.f58) (p := 4) (u := 5) rfl _ _ (w.heap.size + 1) (w.heap.size + 1 + 1) 56 _ _ (.int .i64 0) rfl rfl K.out.1 Tryd.underlying56 rfl HS5.out (load_num K.out.2.1), rfl, K.out.2.2⟩
    | false =>
      have hc := szCode_2 hi ho
      rw [enS_bad (by rw [hc]; omega), hc]
      have HI := hidd hi
      have HSD := hidd (fun W h hE => sized91_bad n k bs hb zs a cap e0 W h hl ho hE)
      clear hc hi ho
      go_enter_defers Tryd.func58, Tryd.ntmps58
      go_upto_region 1 with fail
      rw [← hW3]
      clear hW3
      go_wp2_with (refine wpList_load_row rfl 28 (.tmp 2) rfl w.heap.size rfl 28 _ (0,0) _ G.out.1 Tryd.underlying28 rfl HS.out ?_)
      refine (HIS.out _).mono ?_
      rintro e w1 ⟨rfl, hb1⟩
      rw [HI.out]
      have K1 := hidd (And.intro (G.out.1.below hb1 G.out.1.lt) (And.intro (G.out.2.1.below hb1 G.out.2.1.lt) (And.intro (G.out.2.2.1.below hb1 G.out.2.2.1.lt) (G.out.2.2.2.trans (hb1.mono G.out.2.2.2.size)))))
      clear hb1
      go_wp2_with (refine wpList_load_row rfl 28 (.tmp 2) rfl w.heap.size rfl 28 _ (0,0) _ K1.out.1 Tryd.underlying28 rfl HS.out ?_)
      refine (HSD.out _ (HSL.out.below K1.out.2.2.2 (Nat.le_refl _)) (HE.out.below K1.out.2.2.2 HE.out.lt)).mono ?_
      rintro e w2 ⟨rfl, hb2⟩
      have g2 := K1.out.2.1.below hb2 K1.out.2.1.lt
      have g3 := K1.out.2.2.1.below hb2 K1.out.2.2.1.lt
      have g4 := K1.out.2.2.2.trans (hb2.mono K1.out.2.2.2.size)
      have hE2 : Er w2 e0 := HE.out.below g4 HE.out.lt
      have h8 := g3.cell (j := 0) rfl
      have h9 := g3.fro 0
      have hA := g2.other ⟨w.heap.size + 1 + 1, 0, none⟩ (.int .i64 2) (by simp)
      have hB := g3.same 0 (.int .i64 2)
      have hC := g4.setCell (p := ⟨w.heap.size + 1 + 1, 0, none⟩) (by simp; omega) (.int .i64 2)
      have K := hidd (And.intro hA (And.intro (hB.cell (j := 0) rfl) hC))
      clear g2 g3 g4 hA hB hC hb2
      simp only []
      refine leaves_cons (f := 89) (args := #[.pointer (some ⟨w.heap.size + 1 + 1, 0, none⟩)]) (by simp) (by simp [go_sem]) ?_
      refine (catch_panicking (w.heap.size + 1 + 1) e0 0 _ hE2 h8 h9).mono ?_
      rintro e u' w'' ⟨rfl, rfl, rfl⟩
      exact ⟨_, results_row_cell (fn := Tryd.f58) (p := 4) (u := 5) rfl _ _ (w.heap.size + 1) (w.heap.size + 1 + 1) 56 _ _ (.int .i64 2) rfl rfl K.out.1 Tryd.underlying56 rfl HZ5.out (load_num K.out.2.1), rfl, K.out.2.2⟩
end Go.Proofs.YtckffliiidgilaaDoor
/- PutPoint: the program; the model's point put in. -/
namespace Go.Proofs.YtckffliiidgilaaDoor
set_option linter.unusedVariables false
set_option linter.unusedSimpArgs false
open Go Go.RowKit
set_option maxRecDepth 100000 in
set_option maxHeartbeats 1000000 in
theorem put71 (n k : Int) (bs : List Nat) (hb : Bys bs) (zs : List Int) (a : Option Addr) (cap : Nat) (w : World) (hs : SlI w a zs) (n1 : 1 ≤ n) (n2 : n ≤ 16) (hl : (zs.length : Int) = n) (hz : ∀ j, j < zs.length → 0 ≤ zs.getD j 0 ∧ zs.getD j 0 < 256) :
    Calls Tryd.prog 45 #[.agg (ccells n k bs).toArray, .slice a zs.length cap] w fun e w' => e = .returned (.agg (ccells (n + 1) k (putK bs (edg n).toNat zs zs.length)).toArray) ∧ Below w.heap.size w w' := by
  have Hz := zero26
  obtain ⟨E, hE⟩ := Int.eq_ofNat_of_zero_le (edg_pos (show 0 ≤ n by omega))
  have hEl := edg_last n1 n2
  rw [hE] at hEl
  have HE := hidd hE
  rw [hE, Int.toNat_natCast]
  have hl16 : zs.length ≤ 16 := by omega
  have HL := hidd hl
  have HZ := hidd hz
  have HS := hidd hs
  obtain ⟨C, hC⟩ : ∃ C, C = (ccells n k bs).toArray := ⟨_, rfl⟩
  have hC0 : C[0]? = some (.int .i64 n) := by rw [hC]; rfl
  rw [← hC]
  have HC := hidd (show C.setIfInBounds 0 (.int .i64 (n + 1)) = (ccells (n + 1) k bs).toArray by rw [hC, ccells_set0])
  clear hC hE hz hl hs
  go_enter Tryd.func45, Tryd.ntmps45
  go_wp2_with fail
  go_loopw [5] (fun i wr => ∃ j : Nat, j ≤ zs.length ∧ i = .int .i64 j ∧ RelP (n + 1) k bs E zs a w j wr) (fun i _ => zs.length - (intOf i).toNat)
  case atStart =>
    have hbe : Below w.heap.size w ((w.alloc (.cells (C.setIfInBounds 0 (.int .i64 (n + 1))) 28)).alloc (.cells (ccells 0 0 zbl).toArray 28)) := ((Below.refl _ _).alloc (Nat.le_refl _) _).alloc (by simp) _
    exact ⟨0, by omega, rfl, by rw [putK, ← HC.out]; exact (Blk.new _ _ _ _ rfl).alloc _, Blk.new _ _ _ _ (by simp), HS.out.below hbe (Nat.le_refl _), hbe⟩
  case round =>
    obtain ⟨j, hj, rfl, HR⟩ := hrel
    by_cases hlt : j < zs.length
    · obtain ⟨wo, hwo⟩ : ∃ wo, wo = wr.drew := ⟨_, rfl⟩
      have HR' : RelP (n + 1) k bs E zs a w j wo := by rw [hwo]; exact ⟨HR.1, HR.2.1, HR.2.2.1.below ((Below.refl _ wr).drew) (Nat.le_refl _), HR.2.2.2.drew⟩
      have HWO := hidd hwo
      clear HR hwo
      have HR := HR'
      clear HR'
      rcases HR.2.2.1 with hz | ⟨b, off, ha, hc⟩
      · subst hz; simp at hlt
      · subst ha
        have hcj := hc j hlt
        have hzj := HZ.out j hlt
        obtain ⟨z, hz⟩ : ∃ z, z = zs.getD j 0 := ⟨_, rfl⟩
        rw [← hz] at hcj hzj
        obtain ⟨z0, z1⟩ := hzj
        have hwr : IntKind.u8.wrap z = z := u8_in z0 z1
        have hw0 := HR.1.cell (j := 0) (show _ = some (.int .i64 (n + 1)) from rfl)
        have hbj : Bys (putK bs E zs j) := putK_bys hb E HZ.out j hj
        obtain ⟨F, hF⟩ : ∃ F, F = E + j := ⟨_, rfl⟩
        have hEj : F < 136 := by have := HL.out; omega
        have hwE := HR.1.cell (hbj.cget (n + 1) k hEj)
        have hfE := HR.1.fro (2 + F)
        obtain ⟨old, hold⟩ : ∃ old, old = ((putK bs E zs j).getD F 0 : Nat) := ⟨_, rfl⟩
        rw [← hold] at hwE
        obtain ⟨x, hx⟩ := Int.eq_ofNat_of_zero_le z0
        have hst : Blk (wo.setCell ⟨w.heap.size, 2 + F, none⟩ (.int .u8 z)) w.heap.size (ccells (n + 1) k (putK bs E zs (j + 1))).toArray 28 := by
          have := HR.1.same (2 + F) (.int .u8 z)
          rw [hx, ccells_set] at this
          rw [putK, ← hz, hx, ← hF]; exact this
        have hbe := HR.2.2.2.setCell (p := ⟨w.heap.size, 2 + F, none⟩) (Nat.le_refl _) (.int .u8 z)
        have K := hidd (show RelP (n + 1) k bs E zs (some ⟨b, off, none⟩) w (j + 1) _ from ⟨hst, HR.2.1.other _ _ (by show w.heap.size + 1 ≠ w.heap.size; omega), HS.out.below hbe (Nat.le_refl _), hbe⟩)
        have HX := hidd hx
        have he : eix (j : Int) n = (F : Int) := by rw [eix_last (by omega) (by rw [← HL.out]; omega), HE.out]; omega
        have HEJ := hidd he
        have hjn : (j : Int) ≤ 16 := by omega
        have hF2 : (F : Int) < 136 := by omega
        have hwn : IntKind.i64.wrap n = n := IntWalk.i64_in _ (by omega)
        clear hz hc hst hbe HR hold hbj hx he hF
        go_wp2_with fail
        refine wp_region_still_tail 12 (by kernel_rfl) (by kernel_rfl) ?_
        simp only [List.take_succ_cons, List.take_zero, List.drop_succ_cons, List.drop_zero]
        change wpStill _ _ wr.drew (fun a' => wpList _ _ _ _ a' wr.drew) _ _
        rw [← HWO.out]
        still_step
        still_step
        still_step
        still_step
        still_call ((edge79 _ _ _ (by omega) hjn (by omega) (by omega)).mono fun _ _ h => ⟨h.1, h.2.symm⟩)
        rw [HEJ.out]
        iterate 7 still_step
        refine wpStill_nil ?_
        go_wp2
        go_roundw
        case rel => exact ⟨j + 1, by omega, by go_num, K.out⟩
        case measure => simp [intOf]; omega
    · have hje : j = zs.length := by omega
      subst hje
      have hbj : Bys (putK bs E zs zs.length) := putK_bys hb E HZ.out zs.length (Nat.le_refl _)
      have HS1 := hidd (size_c26 (n + 1) k hbj)
      have HO1 := hidd (size_cc 0 0 (n + 1) k zbl_bys hbj)
      have HA1 := hidd (ccells_one (n + 1) k (putK bs E zs zs.length))
      have K := hidd (And.intro HR.1 (And.intro HR.2.1 (And.intro (HR.2.1.rowSame (ccells (n + 1) k (putK bs E zs zs.length)).toArray) (below_setRow HR.2.2.2 (g := w.heap.size + 1) (by omega) (ccells (n + 1) k (putK bs E zs zs.length)).toArray))))
      clear HR hbj
      go_wp2_with (first
        | (refine wpList_load_row rfl 28 (.tmp 2) rfl w.heap.size rfl 28 _ (0,0) _ K.out.1 Tryd.underlying28 rfl HS1.out ?_)
        | (refine wpList_store_row rfl 28 (.tmp 4) (.tmp 28) rfl (w.heap.size + 1) _ rfl rfl 28 _ K.out.2.1 HS1.out HO1.out HA1.out ?_))
      refine bodyPost_ret (results_cell_row rfl _ _ (w.heap.size + 1) 28 _ (0,0) _ rfl K.out.2.2.1 Tryd.underlying28 rfl HS1.out) rfl ⟨rfl, K.out.2.2.2⟩
set_option maxRecDepth 100000 in
set_option maxHeartbeats 2000000 in
theorem impl38 (n k : Int) (bs : List Nat) (hb : Bys bs) (zs : List Int) (a : Option Addr) (cap : Nat) (w : World) (hs : SlI w a zs) (hl : zs.length ≤ 9223372036854775807) :
    Calls Tryd.prog 80 #[.agg (ccells n k bs).toArray, .slice a zs.length cap] w fun e w' => e = .returned (outP n k bs zs) ∧ Below w.heap.size w w' := by
  have HS := hidd (size_c26 n k hb)
  have Hz := zero26
  have HZS := hidd size_z26
  have HZ1 := hidd (ccells_one 0 0 zbl)
  have HC0 := hidd (show (ccells n k bs).toArray[0]? = some (.int .i64 n) from rfl)
  have HC1 := hidd (show (ccells n k bs).toArray[1]? = some (.int .i64 k) from rfl)
  cases hi : isCol n k bs with
  | false =>
    have H := hidd (outP_bad (codeP_1 (zs := zs) hi) (by omega))
    have HI := hidd hi
    clear hi
    go_enter Tryd.func80, Tryd.ntmps80
    go_wp2_with (refine wpList_load_row rfl 28 (.tmp 2) rfl w.heap.size rfl 28 _ (0,0) _ ((Blk.new _ _ _ _ rfl).alloc _) Tryd.underlying28 rfl HS.out ?_)
    refine (implIs_any n k bs hb _).mono ?_
    rintro e w1 ⟨rfl, hb1⟩
    rw [HI.out]
    obtain ⟨g0, g1, g2⟩ := after2 hb1
    have G := hidd (And.intro g1 (And.intro (g1.rowSame (ccells 0 0 zbl).toArray) (below_setRow g2 (g := w.heap.size + 1) (by omega) (ccells 0 0 zbl).toArray)))
    clear hb1 g0 g1 g2
    go_wp2_with (first
      | (refine wpList_zero26 rfl rfl ?_)
      | (refine wpList_store_row rfl 28 (.tmp 4) (.tmp 11) rfl (w.heap.size + 1) _ rfl rfl 28 _ G.out.1 HZS.out rfl HZ1.out ?_))
    exact ret_col rfl zbl_bys rfl G.out.2.1 rfl rfl ⟨by rw [H.out]; rfl, G.out.2.2⟩
  | true =>
    have HI := hidd hi
    obtain ⟨n1, n2, k1, k2⟩ := isCol_bd hi
    by_cases hL : (zs.length : Int) = n
    · have hq : ((zs.length : Int) != n) = false := by simpa using hL
      have HL := hidd hL
      cases ha : allB zs k with
      | false =>
        have H := hidd (outP_bad (codeP_2 hi (.inr ha)) (by omega))
        have HA := hidd ha
        clear hi ha hL
        go_enter Tryd.func80, Tryd.ntmps80
        go_wp2_with (refine wpList_load_row rfl 28 (.tmp 2) rfl w.heap.size rfl 28 _ (0,0) _ ((Blk.new _ _ _ _ rfl).alloc _) Tryd.underlying28 rfl HS.out ?_)
        refine (implIs_any n k bs hb _).mono ?_
        rintro e w1 ⟨rfl, hb1⟩
        rw [HI.out]
        obtain ⟨g0, g1, g2⟩ := after2 hb1
        have G := hidd (And.intro g1 (And.intro (g1.rowSame (ccells 0 0 zbl).toArray) (below_setRow g2 (g := w.heap.size + 1) (by omega) (ccells 0 0 zbl).toArray)))
        have c0 := g0.cell HC0.out
        have c1 := g0.cell HC1.out
        have hs1 := hidd (hs.below g2 (Nat.le_refl _))
        clear hb1 g0 g1 g2
        go_wp2_with (first
          | (refine wpList_zero26 rfl rfl ?_)
          | (refine wpList_store_row rfl 28 (.tmp 4) (.tmp 24) rfl (w.heap.size + 1) _ rfl rfl 28 _ G.out.1 HZS.out rfl HZ1.out ?_)
          | (go_at_call 79; refine (all51 _ _ _ _ _ hs1.out hl).mono ?_; rintro e w' ⟨rfl, rfl⟩; rw [HA.out]))
        exact ret_col rfl zbl_bys rfl G.out.2.1 rfl rfl ⟨by rw [H.out]; rfl, G.out.2.2⟩
      | true =>
        have HA := hidd ha
        by_cases h17 : n = 17
        · have H := hidd (outP_bad (codeP_3 hi hL ha h17) (by omega))
          have h7 : (n == 17) = true := by simpa using h17
          clear hi ha hL h17
          go_enter Tryd.func80, Tryd.ntmps80
          go_wp2_with (refine wpList_load_row rfl 28 (.tmp 2) rfl w.heap.size rfl 28 _ (0,0) _ ((Blk.new _ _ _ _ rfl).alloc _) Tryd.underlying28 rfl HS.out ?_)
          refine (implIs_any n k bs hb _).mono ?_
          rintro e w1 ⟨rfl, hb1⟩
          rw [HI.out]
          obtain ⟨g0, g1, g2⟩ := after2 hb1
          have G := hidd (And.intro g1 (And.intro (g1.rowSame (ccells 0 0 zbl).toArray) (below_setRow g2 (g := w.heap.size + 1) (by omega) (ccells 0 0 zbl).toArray)))
          have c0 := g0.cell HC0.out
          have c1 := g0.cell HC1.out
          have hs1 := hidd (hs.below g2 (Nat.le_refl _))
          clear hb1 g0 g1 g2
          go_wp2_with (first
            | (refine wpList_zero26 rfl rfl ?_)
            | (refine wpList_store_row rfl 28 (.tmp 4) (.tmp 28) rfl (w.heap.size + 1) _ rfl rfl 28 _ G.out.1 HZS.out rfl HZ1.out ?_)
            | (go_at_call 79; refine (all51 _ _ _ _ _ hs1.out hl).mono ?_; rintro e w' ⟨rfl, rfl⟩; rw [HA.out]))
          exact ret_col rfl zbl_bys rfl G.out.2.1 rfl rfl ⟨by rw [H.out]; rfl, G.out.2.2⟩
        · have H := hidd (outP_good (codeP_0 hi hL ha h17))
          have h7 : (n == 17) = false := by simpa using h17
          have hzz : ∀ j, j < zs.length → 0 ≤ zs.getD j 0 ∧ zs.getD j 0 < 256 := fun j hj => by have := allB_get ha hj; omega
          have HZZ := hidd hzz
          have n3 : n ≤ 16 := by omega
          have HBP := hidd (putK_bys hb (edg n).toNat hzz zs.length (Nat.le_refl _))
          have HS2 := hidd (size_c26 (n + 1) k HBP.out)
          have HO2 := hidd (size_cc 0 0 (n + 1) k zbl_bys HBP.out)
          have HA2 := hidd (ccells_one (n + 1) k (putK bs (edg n).toNat zs zs.length))
          clear hi ha hL h17 hzz
          go_enter Tryd.func80, Tryd.ntmps80
          go_wp2_with (refine wpList_load_row rfl 28 (.tmp 2) rfl w.heap.size rfl 28 _ (0,0) _ ((Blk.new _ _ _ _ rfl).alloc _) Tryd.underlying28 rfl HS.out ?_)
          refine (implIs_any n k bs hb _).mono ?_
          rintro e w1 ⟨rfl, hb1⟩
          rw [HI.out]
          obtain ⟨g0, g1, g2⟩ := after2 hb1
          have c0 := g0.cell HC0.out
          have c1 := g0.cell HC1.out
          have hs1 := hidd (hs.below g2 (Nat.le_refl _))
          have R := hidd (show RelP n k bs (edg n).toNat zs a w 0 w1 from ⟨g0, g1, hs1.out, g2⟩)
          clear hb1 g0 g1 g2
          go_wp2_with (first
            | (go_at_call 79; refine (all51 _ _ _ _ _ hs1.out hl).mono ?_; rintro e w' ⟨rfl, rfl⟩; rw [HA.out]))
          clear c0 c1
          go_loopw [31] (fun i wr => ∃ j : Nat, j ≤ zs.length ∧ i = .int .i64 j ∧ RelP n k bs (edg n).toNat zs a w j wr) (fun i _ => zs.length - (intOf i).toNat)
          case atStart => exact ⟨0, by omega, rfl, R.out⟩
          case round =>
            obtain ⟨j, hj, rfl, HR⟩ := hrel
            by_cases hlt : j < zs.length
            · rcases HR.2.2.1 with hz | ⟨b, off, ha, hc⟩
              · subst hz; simp at hlt
              · subst ha
                obtain ⟨E, hE⟩ := Int.eq_ofNat_of_zero_le (edg_pos (show 0 ≤ n by omega))
                have hEl := edg_last n1 n3
                have hcj := hc j hlt
                have hzj := HZZ.out j hlt
                obtain ⟨z, hz⟩ : ∃ z, z = zs.getD j 0 := ⟨_, rfl⟩
                rw [← hz] at hcj hzj
                obtain ⟨z0, z1⟩ := hzj
                have hwr : IntKind.u8.wrap z = z := u8_in z0 z1
                rw [hE, Int.toNat_natCast] at HR
                have hw0 := HR.1.cell (j := 0) (show _ = some (.int .i64 n) from rfl)
                have hbj : Bys (putK bs E zs j) := putK_bys hb E HZZ.out j hj
                obtain ⟨F, hF⟩ : ∃ F, F = E + j := ⟨_, rfl⟩
                have hEj : F < 136 := by have := HL.out; omega
                have hwE := HR.1.cell (hbj.cget n k hEj)
                have hfE := HR.1.fro (2 + F)
                obtain ⟨old, hold⟩ : ∃ old, old = ((putK bs E zs j).getD F 0 : Nat) := ⟨_, rfl⟩
                rw [← hold] at hwE
                obtain ⟨x, hx⟩ := Int.eq_ofNat_of_zero_le z0
                have hst : Blk (wr.setCell ⟨w.heap.size, 2 + F, none⟩ (.int .u8 z)) w.heap.size (ccells n k (putK bs E zs (j + 1))).toArray 28 := by
                  have := HR.1.same (2 + F) (.int .u8 z)
                  rw [hx, ccells_set] at this
                  rw [putK, ← hz, hx, ← hF]; exact this
                have hbe := HR.2.2.2.setCell (p := ⟨w.heap.size, 2 + F, none⟩) (Nat.le_refl _) (.int .u8 z)
                have K := hidd (show RelP n k bs (edg n).toNat zs (some ⟨b, off, none⟩) w (j + 1) _ from by
                  rw [hE, Int.toNat_natCast]
                  exact ⟨hst, HR.2.1.other _ _ (by show w.heap.size + 1 ≠ w.heap.size; omega), hs.below hbe (Nat.le_refl _), hbe⟩)
                have hjn : (j : Int) ≤ 16 := by have := HL.out; omega
                have hjn2 : (j : Int) < n := by have := HL.out; omega
                have he : eix (j : Int) n = (F : Int) := by rw [eix_last (by omega) hjn2, hE]; omega
                have HEJ := hidd he
                have hF2 : (F : Int) < 136 := by omega
                have HNE := hidd (show (j : Int) ≠ n by omega)
                have HSS := hidd hs
                clear hz hc hst hbe HR hold hbj hx he hF hE hEl hs
                go_wp2_with (go_at_call 99; refine (edge54 _ _ _ HNE.out (by omega) (by omega) (by omega) (by omega)).mono ?_; rintro e w' ⟨rfl, rfl⟩; rw [HEJ.out])
                go_roundw
                case rel => exact ⟨j + 1, by omega, by go_num, K.out⟩
                case measure => simp [intOf]; omega
            · have hje : j = zs.length := by omega
              subst hje
              have hw0 := HR.1.cell (j := 0) (show _ = some (.int .i64 n) from rfl)
              have hf0 := HR.1.fro 0
              have s0 := HR.1.same 0 (.int .i64 (n + 1))
              rw [ccells_set0] at s0
              have s1 := HR.2.1.other ⟨w.heap.size, 0, none⟩ (.int .i64 (n + 1)) (by show w.heap.size + 1 ≠ w.heap.size; omega)
              have s2 := HR.2.2.2.setCell (p := ⟨w.heap.size, 0, none⟩) (Nat.le_refl _) (.int .i64 (n + 1))
              have K := hidd (And.intro s0 (And.intro s1 (And.intro (s1.rowSame (ccells (n + 1) k (putK bs (edg n).toNat zs zs.length)).toArray) (below_setRow s2 (g := w.heap.size + 1) (by omega) (ccells (n + 1) k (putK bs (edg n).toNat zs zs.length)).toArray))))
              clear s0 s1 s2 HR
              go_wp2_with (first
                | (refine wpList_load_row rfl 28 (.tmp 2) rfl w.heap.size rfl 28 _ (0,0) _ K.out.1 Tryd.underlying28 rfl HS2.out ?_)
                | (refine wpList_store_row rfl 28 (.tmp 4) (.tmp 49) rfl (w.heap.size + 1) _ rfl rfl 28 _ K.out.2.1 HS2.out HO2.out HA2.out ?_))
              exact ret_col rfl HBP.out rfl K.out.2.2.1 rfl rfl ⟨by rw [H.out]; rfl, K.out.2.2.2⟩
    · have hq : ((zs.length : Int) != n) = true := by rw [bne_iff_ne]; exact hL
      have H := hidd (outP_bad (codeP_2 hi (.inl hL)) (by omega))
      clear hi hL
      go_enter Tryd.func80, Tryd.ntmps80
      go_wp2_with (refine wpList_load_row rfl 28 (.tmp 2) rfl w.heap.size rfl 28 _ (0,0) _ ((Blk.new _ _ _ _ rfl).alloc _) Tryd.underlying28 rfl HS.out ?_)
      refine (implIs_any n k bs hb _).mono ?_
      rintro e w1 ⟨rfl, hb1⟩
      rw [HI.out]
      obtain ⟨g0, g1, g2⟩ := after2 hb1
      have G := hidd (And.intro g1 (And.intro (g1.rowSame (ccells 0 0 zbl).toArray) (below_setRow g2 (g := w.heap.size + 1) (by omega) (ccells 0 0 zbl).toArray)))
      have c0 := g0.cell HC0.out
      have c1 := g0.cell HC1.out
      have hs1 := hidd (hs.below g2 (Nat.le_refl _))
      clear hb1 g0 g1 g2
      go_wp2_with (first
        | (refine wpList_zero26 rfl rfl ?_)
        | (refine wpList_store_row rfl 28 (.tmp 4) (.tmp 24) rfl (w.heap.size + 1) _ rfl rfl 28 _ G.out.1 HZS.out rfl HZ1.out ?_))
      exact ret_col rfl zbl_bys rfl G.out.2.1 rfl rfl ⟨by rw [H.out]; rfl, G.out.2.2⟩
end Go.Proofs.YtckffliiidgilaaDoor
/- A colouring with sizes: avoids, with, enterAvoiding. -/
namespace Go.Proofs.YtckffliiidgilaaDoor
set_option linter.unusedVariables false
set_option linter.unusedSimpArgs false
open Go Go.RowKit Go.Extern.Stop Go.Stop Go.Extern
set_option maxRecDepth 100000 in
set_option maxHeartbeats 2000000 in
theorem avoids50 (N K : Nat) (bs : List Nat) (hb : Bys bs) (zs : List Int) (a : Option Addr) (cap : Nat) (w : World) (hs : SlI w a zs) (hl : zs.length = K) (n1 : 1 ≤ N) (hN17 : N ≤ 17) (hK : K ≤ 4) (hsz : szP zs K = true) :
    Calls Tryd.prog 50 #[.agg (scl (N : Int) (K : Int) bs a K cap).toArray] w fun e w' => e = .returned (.bool (avP N bs zs K)) ∧ Below w.heap.size w w' := by
  have HSL := hidd hs
  have HFS := hidd (fun W h => firsts31 N K bs hb zs a cap W h hl n1 hN17 hK)
  have HAV := hidd (fsR_av (N := N) (bs := bs) (zs := zs) (K := K) hN17 hsz)
  obtain ⟨av, hav⟩ : ∃ av, av = avP N bs zs K := ⟨_, rfl⟩
  obtain ⟨x, hx⟩ : ∃ x : Int, x = ((fsR N bs zs K).2 : Int) := ⟨_, rfl⟩
  obtain ⟨y, hy⟩ : ∃ y : Int, y = ((fsR N bs zs K).1 : Int) := ⟨_, rfl⟩
  rw [← hx, ← hav] at HAV
  rw [← hx, ← hy] at HFS
  rw [← hav]
  have S1 := hidd (size_l28 (N : Int) (K : Int) hb)
  obtain ⟨C, hC⟩ : ∃ C, C = (scl (N : Int) (K : Int) bs a K cap).toArray := ⟨_, rfl⟩
  have hc1 : C[138]? = some (.slice a K cap) := by rw [hC]; exact scl_snd hb
  have HR := hidd (fun W (h : Blk W w.heap.size C 56) => h.range 0 (ccells (N : Int) (K : Int) bs) (fun j v hj => by rw [hC]; exact scl_fst j v hj))
  rw [← hC]
  have HB := hidd (Blk.new w C 56 _ rfl)
  have HBl := hidd ((Below.refl w.heap.size w).alloc (Nat.le_refl _) (.cells C 56))
  have c1 := HB.out.cell hc1
  clear hC hc1 hs hl hsz hav hx hy
  go_enter Tryd.func50, Tryd.ntmps50
  go_wp2_with (refine wpList_load_mid rfl 28 (.tmp 6) rfl w.heap.size 0 rfl (ccells (N : Int) (K : Int) bs) _ (HR.out _ HB.out) Tryd.underlying28 rfl S1.out ?_)
  refine (HFS.out _ (HSL.out.below HBl.out (Nat.le_refl _))).mono ?_
  rintro e w1 ⟨rfl, hb1⟩
  have K1 := hidd (HBl.out.trans (hb1.mono (by simp)))
  clear hb1
  go_wp2_with fail
  go_ret
  exact ⟨by rw [← HAV.out]; rfl, K1.out⟩
set_option maxRecDepth 100000 in
set_option maxHeartbeats 2000000 in
theorem with49 (n k : Int) (bs : List Nat) (hb : Bys bs) (a : Option Addr) (l cap : Nat) (cs : List Int) (b : Option Addr) (capb : Nat) (w : World) (hs : SlI w b cs) (hcl : cs.length ≤ 1048576) (hc0 : codeP n k bs cs = 0) :
    Calls Tryd.prog 49 #[.agg (scl n k bs a l cap).toArray, .slice b cs.length capb] w fun e w' => e = .returned (.agg (scl (n + 1) k (putK bs (edg n).toNat cs cs.length) a l cap).toArray) ∧ Below w.heap.size w w' := by
  have Hz := zero56
  have Hz2 := zero26
  have HSL := hidd hs
  have hpb : Bys (putK bs (edg n).toNat cs cs.length) := by have := ppB_bys (n := n) (k := k) hb cs; unfold ppB at this; rw [if_pos hc0] at this; exact this
  have HIM := hidd (fun W h => impl38 n k bs hb cs b capb W h (by omega))
  rw [outP_good hc0] at HIM
  obtain ⟨pb, hpbe⟩ : ∃ pb, pb = putK bs (edg n).toNat cs cs.length := ⟨_, rfl⟩
  rw [← hpbe] at hpb HIM ⊢
  have HPB := hidd hpb
  have S1 := hidd (size_l28 n k hb)
  have SZ := hidd (size_c26 (n + 1) k hpb)
  have SO := hidd (size_cc 0 0 (n + 1) k zbl_bys hpb)
  have SA := hidd (ccells_one (n + 1) k pb)
  have HS5 := hidd (size_s56 (n := n + 1) (k := k) hpb a l cap)
  have HO5 := hidd (show (scl 0 0 zbl none 0 0).toArray.size = (scl (n + 1) k pb a l cap).toArray.size by simp [scl_len zbl_bys, scl_len hpb])
  have HA5 := hidd (scl_one (n := n + 1) (k := k) (bs := pb) (a := a) (l := l) (c := cap))
  obtain ⟨C, hC⟩ : ∃ C, C = (scl n k bs a l cap).toArray := ⟨_, rfl⟩
  have hc1 := hidd (show C[138]? = some (.slice a l cap) by rw [hC]; exact scl_snd hb)
  have HR := hidd (fun W (h : Blk W w.heap.size C 56) => h.range 0 (ccells n k bs) (fun j v hj => by rw [hC]; exact scl_fst j v hj))
  rw [← hC]
  obtain ⟨W2, hW2⟩ : ∃ W2, W2 = (w.alloc (.cells C 56)).alloc (.cells (scl 0 0 zbl none 0 0).toArray 56) := ⟨_, rfl⟩
  have g1 : Blk W2 w.heap.size C 56 := by rw [hW2]; exact (Blk.new _ _ _ _ rfl).alloc _
  have g2 : Blk W2 (w.heap.size + 1) (scl 0 0 zbl none 0 0).toArray 56 := by rw [hW2]; exact Blk.new _ _ _ _ (by simp)
  have g3 : Below w.heap.size w W2 := by rw [hW2]; exact ((Below.refl _ _).alloc (Nat.le_refl _) _).alloc (by simp) _
  have G := hidd (And.intro g1 (And.intro g2 g3))
  clear g1 g2 g3 hC hs hpbe hpb hc0
  go_enter Tryd.func49, Tryd.ntmps49
  go_upto_region 1 with fail
  rw [← hW2]
  clear hW2
  go_wp2_with (refine wpList_load_mid rfl 28 (.tmp 8) rfl w.heap.size 0 rfl (ccells n k bs) _ (HR.out _ G.out.1) Tryd.underlying28 rfl S1.out ?_)
  refine (HIM.out _ (HSL.out.below G.out.2.2 (Nat.le_refl _))).mono ?_
  rintro e w1 ⟨rfl, hb1⟩
  have k1 := G.out.1.below hb1 G.out.1.lt
  have k2 := G.out.2.1.below hb1 G.out.2.1.lt
  have k3 := G.out.2.2.trans (hb1.mono G.out.2.2.size)
  obtain ⟨W4, hW4⟩ : ∃ W4, W4 = w1.alloc (.cells (ccells 0 0 zbl).toArray 28) := ⟨_, rfl⟩
  have k4 : Blk W4 w1.heap.size (ccells 0 0 zbl).toArray 28 := by rw [hW4]; exact Blk.new _ _ _ _ rfl
  have hlt : w.heap.size + 1 < w1.heap.size := k2.lt
  have k1' : Blk W4 w.heap.size C 56 := by rw [hW4]; exact k1.alloc _
  have k2' : Blk W4 (w.heap.size + 1) (scl 0 0 zbl none 0 0).toArray 56 := by rw [hW4]; exact k2.alloc _
  have k3' : Below w.heap.size w W4 := by rw [hW4]; exact k3.alloc (by omega) _
  have m1 := k1'.rowOther w1.heap.size (ccells (n + 1) k pb).toArray (by omega)
  have m2 := k2'.rowOther w1.heap.size (ccells (n + 1) k pb).toArray (by omega)
  have m3 := below_setRow k3' (show w.heap.size ≤ w1.heap.size by omega) (ccells (n + 1) k pb).toArray
  have m4 := k4.rowSame (ccells (n + 1) k pb).toArray
  have mc := m1.cell hc1.out
  have K := hidd (And.intro k4 (And.intro m2 (And.intro m4 (And.intro (m2.rowSame (scl (n + 1) k pb a l cap).toArray) (below_setRow m3 (show w.heap.size ≤ w.heap.size + 1 by omega) (scl (n + 1) k pb a l cap).toArray)))))
  clear k1 k2 k3 k4 k1' k2' k3' m1 m2 m3 m4 hb1
  go_upto_region 2 with (first
    | (refine wpList_store_row rfl 28 (.tmp 5) (.tmp 12) rfl w1.heap.size _ rfl rfl 28 _ (Blk.new _ _ _ _ rfl) SZ.out SO.out SA.out ?_))
  rw [← hW4]
  clear hW4
  go_wp2_with (first
    | (refine wpList_load_row rfl 28 (.tmp 5) rfl w1.heap.size rfl 28 _ (0,0) _ K.out.2.2.1 Tryd.underlying28 rfl SZ.out ?_)
    | (refine wpList_build56 HPB.out rfl (.tmp 14) (.tmp 16) rfl rfl rfl ?_)
    | (refine wpList_store_row rfl 56 (.tmp 4) (.tmp 17) rfl (w.heap.size + 1) _ rfl rfl 56 _ K.out.2.1 HS5.out HO5.out HA5.out ?_))
  exact bodyPost_ret (results_cell_row rfl _ _ (w.heap.size + 1) 56 _ (0,0) _ rfl K.out.2.2.2.1 Tryd.underlying56 rfl HS5.out) rfl ⟨rfl, K.out.2.2.2.2⟩
end Go.Proofs.YtckffliiidgilaaDoor
/- How many cliques there are: the number that the count tells is the length of the list. Nothing of the program. -/
namespace Go.Proofs.YtckffliiidgilaaDoor
set_option linter.unusedVariables false
set_option linter.unusedSimpArgs false
theorem sm_one {f g : Nat → Nat} {j : Nat} : ∀ N, j < N → (∀ p, p < N → p ≠ j → f p = g p) → g j = 0 → sm f N = f j + sm g N
  | 0, h, _, _ => by omega
  | N + 1, h, he, h0 => by
    by_cases e : j = N
    · subst e
      rw [sm, sm, h0, sm_congr j (fun p hp => he p (by omega) (by omega))]; omega
    · rw [sm, sm, sm_one N (by omega) (fun p hp hne => he p (by omega) hne) h0, he N (by omega) (fun x => e x.symm)]; omega
theorem frB_nobit {R : Nat → Nat} {N : Nat} {s : List Nat} {d p : Nat} (h : p < N - d ∨ fitR R s p = false ∨ N ≤ p) : (frB R N s d).testBit p = false := by
  by_cases hp : p < N
  · rw [frB_bit hp]
    rcases h with h | h | h
    · rw [decide_eq_false (by omega)]; rfl
    · rw [h]; simp
    · omega
  · exact arK_high (by omega)
theorem hiB_ext {F G p : Nat} (h : ∀ q, p ≤ q → F.testBit q = G.testBit q) : hiB F p = hiB G p := by
  apply Nat.eq_of_testBit_eq
  intro q
  rw [hiB_bit, hiB_bit]
  by_cases hq : p ≤ q
  · rw [h q hq]
  · rw [decide_eq_false hq]; rfl
theorem cT_nobit {R : Nat → Nat} {N m F p : Nat} (h : F.testBit p = false) : cT R N m F p = 0 := by unfold cT; rw [if_neg (by rw [h]; simp)]
theorem cqL_cnt {R : Nat → Nat} (h0 : ∀ q, (R q).testBit q = false) {N m : Nat} {M : Nat} {s : List Nat} (hM : M = s.length + (m + 1))
    (IH : ∀ (j d : Nat), d ≤ N → (cqH R N M d (j :: s)).length = cC R N m (frB R N (j :: s) d)) : ∀ d, d ≤ N → (cqL R N M d s).length = sm (cT R N m (frB R N s d)) N
  | 0, _ => by
    rw [cqL_zero, sm_zero' N]
    · rfl
    · intro p hp
      exact cT_nobit (frB_nobit (by omega))
  | d + 1, hd => by
    have e1 := cqL_cnt h0 hM IH d (by omega)
    obtain ⟨j, hj⟩ : ∃ j, j = N - (d + 1) := ⟨_, rfl⟩
    have hjN : j < N := by omega
    have hdj : N - (j + 1) = d := by omega
    have hbit : ∀ p, p < N → p ≠ j → (frB R N s (d + 1)).testBit p = (frB R N s d).testBit p := fun p hp hne => by
      rw [frB_bit hp, frB_bit hp]
      congr 1
      by_cases h : N - (d + 1) ≤ p
      · rw [decide_eq_true h, decide_eq_true (by omega)]
      · rw [decide_eq_false h, decide_eq_false (by omega)]
    have hz : cT R N m (frB R N s d) j = 0 := cT_nobit (frB_nobit (by omega))
    have hne : ∀ p, p < N → p ≠ j → cT R N m (frB R N s (d + 1)) p = cT R N m (frB R N s d) p := fun p hp hpj => by
      unfold cT
      rw [hbit p hp hpj]
      by_cases hlt : p < j
      · rw [if_neg, if_neg]
        · rw [frB_nobit (by omega)]; simp
        · rw [frB_nobit (by omega)]; simp
      · rw [hiB_ext (F := frB R N s (d + 1)) (G := frB R N s d) (p := p + 1)]
        intro q hq
        by_cases hqN : q < N
        · exact hbit q hqN (by omega)
        · rw [frB_nobit (by omega), frB_nobit (by omega)]
    rw [sm_one N hjN hne hz]
    cases hf : fitR R s j with
    | true =>
      have hb : (frB R N s (d + 1)).testBit j = true := by
        rw [frB_bit hjN, hf, decide_eq_true (by omega)]; rfl
      have hc : cT R N m (frB R N s (d + 1)) j = cC R N m (frB R N (j :: s) d) := by
        unfold cT
        rw [if_pos hb]
        congr 1
        have := frB_next h0 (d := d + 1) (s := s) hjN (by omega)
        rw [hdj] at this
        rw [← this]
        apply Nat.eq_of_testBit_eq
        intro q
        rw [Nat.testBit_and, hiB_bit, hiB_bit, Nat.testBit_and]
        by_cases e : q = j
        · subst e; rw [h0 q]; simp
        · by_cases hq : j ≤ q
          · rw [decide_eq_true hq, decide_eq_true (show j + 1 ≤ q by omega)]; simp
          · rw [decide_eq_false hq, decide_eq_false (show ¬ j + 1 ≤ q by omega)]; simp
      rw [cqL_fit (by rw [← hj]; exact hf), List.length_append, ← hj, IH j d (by omega), e1, hc]
    | false =>
      have hb : cT R N m (frB R N s (d + 1)) j = 0 := cT_nobit (frB_nobit (.inr (.inl hf)))
      rw [cqL_skip (by rw [← hj]; exact hf), e1, hb]; omega
theorem cqH_cnt {R : Nat → Nat} (h0 : ∀ q, (R q).testBit q = false) {N : Nat} : ∀ (m : Nat) (s : List Nat) (d M : Nat), M = s.length + m → d ≤ N → (cqH R N M d s).length = cC R N m (frB R N s d)
  | 0, s, d, M, hM, _ => by rw [cqH_here (by omega)]; rfl
  | m + 1, s, d, M, hM, hd => by
    rw [cqH_less (by omega), cC_succ]
    exact cqL_cnt h0 hM (fun j d hd => cqH_cnt h0 m (j :: s) d M (by simp; omega) hd) d hd
theorem clqL_cnt (bs : List Nat) (c : Int) (N m : Nat) : (clqL bs c N m).length = cC (rwN bs c N) N m (2 ^ N - 1) := by
  unfold clqL
  rw [cqH_cnt (rwN_irr bs c N) m [] N m (by simp) (Nat.le_refl _), frB_full]
theorem clqL_none (bs : List Nat) (c : Int) (N m : Nat) : (clqL bs c N m).isEmpty = decide (cC (rwN bs c N) N m (2 ^ N - 1) = 0) := by
  rw [← clqL_cnt]
  cases clqL bs c N m <;> simp
/-- Is there a clique of m points in a set? -/
def hasK (R : Nat → Nat) (N m F : Nat) : Bool := decide (0 < cC R N m F)
theorem clqL_has (bs : List Nat) (c : Int) (N m : Nat) : (clqL bs c N m).isEmpty = !hasK (rwN bs c N) N m (2 ^ N - 1) := by
  rw [clqL_none]
  unfold hasK
  by_cases h : cC (rwN bs c N) N m (2 ^ N - 1) = 0
  · rw [decide_eq_true h, decide_eq_false (by omega)]; rfl
  · rw [decide_eq_false h, decide_eq_true (by omega)]; rfl
theorem hasK_0 (R : Nat → Nat) (N F : Nat) : hasK R N 0 F = true := rfl
theorem hasK_few {R : Nat → Nat} {N m F : Nat} (hN : N ≤ 17) (hF : F < 2 ^ 17) (h : ones F < m) : hasK R N m F = false := by
  unfold hasK; rw [cC_none hN m F hF h]; rfl
/-- The points below j do not begin one. -/
def hasT (R : Nat → Nat) (N m F j : Nat) : Bool := decide (0 < sm (cT R N m F) j)
theorem hasT_0 (R : Nat → Nat) (N m F : Nat) : hasT R N m F 0 = false := rfl
theorem hasT_N (R : Nat → Nat) (N m F : Nat) : hasT R N m F N = hasK R N (m + 1) F := rfl
theorem hasT_skip {R : Nat → Nat} {N m F j : Nat} (h : F.testBit j = false) (h0 : hasT R N m F j = false) : hasT R N m F (j + 1) = false := by
  unfold hasT at h0 ⊢
  rw [sm, cT_nobit h]; exact h0
theorem hasT_step {R : Nat → Nat} {N m F j : Nat} (h : F.testBit j = true) (h0 : hasT R N m F j = false) : hasT R N m F (j + 1) = hasK R N m (hiB F (j + 1) &&& R j) := by
  unfold hasT at h0 ⊢
  unfold hasK
  have h1 := of_decide_eq_false h0
  have h2 : cT R N m F j = cC R N m (hiB F (j + 1) &&& R j) := by unfold cT; rw [if_pos h]
  rw [sm, h2]
  by_cases h3 : 0 < cC R N m (hiB F (j + 1) &&& R j)
  · rw [decide_eq_true h3, decide_eq_true (by omega)]
  · rw [decide_eq_false h3, decide_eq_false (by omega)]
theorem sm_mono {f : Nat → Nat} {j : Nat} : ∀ N, j ≤ N → sm f j ≤ sm f N
  | 0, h => by rw [show j = 0 by omega]; exact Nat.le_refl _
  | N + 1, h => by
    by_cases e : j = N + 1
    · rw [e]; exact Nat.le_refl _
    · have := sm_mono (f := f) N (show j ≤ N by omega)
      rw [sm]; omega
theorem hasT_yes {R : Nat → Nat} {N m F j : Nat} (hj : j ≤ N) (h : hasT R N m F j = true) : hasK R N (m + 1) F = true := by
  rw [← hasT_N]
  unfold hasT at h ⊢
  have := of_decide_eq_true h
  have := sm_mono (f := cT R N m F) N hj
  exact decide_eq_true (by omega)
end Go.Proofs.YtckffliiidgilaaDoor
/- Cliques as sets in no order. Nothing of the program. -/
namespace Go.Proofs.YtckffliiidgilaaDoor
set_option linter.unusedVariables false
set_option linter.unusedSimpArgs false
/-- A list of m different points of F below N, each two of them neighbours. -/
def Uc (R : Nat → Nat) (N m F : Nat) (l : List Nat) : Prop :=
  l.Nodup ∧ l.length = m ∧ (∀ p ∈ l, p < N ∧ F.testBit p = true) ∧ (∀ p ∈ l, ∀ q ∈ l, p ≠ q → (R p).testBit q = true)
theorem hasT_ex {R : Nat → Nat} {N m F : Nat} : ∀ j, hasT R N m F j = true → ∃ p, p < j ∧ F.testBit p = true ∧ hasK R N m (hiB F (p + 1) &&& R p) = true
  | 0, h => by simp [hasT_0] at h
  | j + 1, h => by
    cases h0 : hasT R N m F j with
    | true =>
      obtain ⟨p, h1, h2⟩ := hasT_ex j h0
      exact ⟨p, by omega, h2⟩
    | false =>
      cases hb : F.testBit j with
      | true => exact ⟨j, by omega, hb, by rw [← hasT_step hb h0]; exact h⟩
      | false => rw [hasT_skip hb h0] at h; cases h
theorem hasT_of {R : Nat → Nat} {N m F p : Nat} (hp : F.testBit p = true) (hk : hasK R N m (hiB F (p + 1) &&& R p) = true) : ∀ j, p < j → hasT R N m F j = true
  | 0, h => by omega
  | j + 1, h => by
    cases h0 : hasT R N m F j with
    | true =>
      unfold hasT at h0 ⊢
      have := of_decide_eq_true h0
      rw [sm]; exact decide_eq_true (by omega)
    | false =>
      by_cases e : p = j
      · subst e; rw [hasT_step hp h0]; exact hk
      · have := hasT_of hp hk j (by omega)
        rw [h0] at this; cases this
theorem hasK_ex {R : Nat → Nat} {N : Nat} (hsym : ∀ p q, p < N → q < N → (R p).testBit q = (R q).testBit p) : ∀ (m F : Nat), hasK R N m F = true → ∃ l, Uc R N m F l
  | 0, F, _ => ⟨[], List.nodup_nil, rfl, by simp, by simp⟩
  | m + 1, F, h => by
    rw [← hasT_N] at h
    obtain ⟨p, hp, hb, hk⟩ := hasT_ex N h
    obtain ⟨l, h1, h2, h3, h4⟩ := hasK_ex hsym m _ hk
    have hq : ∀ q ∈ l, q < N ∧ p < q ∧ F.testBit q = true ∧ (R p).testBit q = true := fun q hq => by
      have := h3 q hq
      rw [Nat.testBit_and, hiB_bit, Bool.and_eq_true, Bool.and_eq_true] at this
      exact ⟨this.1, of_decide_eq_true this.2.1.1, this.2.1.2, this.2.2⟩
    refine ⟨p :: l, ?_, by simp [h2], ?_, ?_⟩
    · rw [List.nodup_cons]
      exact ⟨fun hm => by have := (hq p hm).2.1; omega, h1⟩
    · intro q hm
      rcases List.mem_cons.1 hm with rfl | hm
      · exact ⟨hp, hb⟩
      · exact ⟨(hq q hm).1, (hq q hm).2.2.1⟩
    · intro a ha b hb' hne
      rcases List.mem_cons.1 ha with e | ha
      · rcases List.mem_cons.1 hb' with e' | hb'
        · exact absurd (e.trans e'.symm) hne
        · rw [e]; exact (hq b hb').2.2.2
      · rcases List.mem_cons.1 hb' with e' | hb'
        · rw [e', hsym a p (hq a ha).1 hp]; exact (hq a ha).2.2.2
        · exact h4 a ha b hb' hne
theorem least_mem : ∀ (l : List Nat), l ≠ [] → ∃ p ∈ l, ∀ q ∈ l, p ≤ q
  | [], h => absurd rfl h
  | [a], _ => ⟨a, by simp, by simp⟩
  | a :: b :: t, _ => by
    obtain ⟨p, h1, h2⟩ := least_mem (b :: t) (by simp)
    by_cases h : a ≤ p
    · exact ⟨a, by simp, fun q hq => by
        rcases List.mem_cons.1 hq with rfl | hq
        · exact Nat.le_refl _
        · exact Nat.le_trans h (h2 q hq)⟩
    · exact ⟨p, List.mem_cons_of_mem _ h1, fun q hq => by
        rcases List.mem_cons.1 hq with rfl | hq
        · omega
        · exact h2 q hq⟩
theorem hasK_of {R : Nat → Nat} {N : Nat} : ∀ (m F : Nat) (l : List Nat), Uc R N m F l → hasK R N m F = true
  | 0, F, _, _ => hasK_0 R N F
  | m + 1, F, l, ⟨h1, h2, h3, h4⟩ => by
    obtain ⟨p, hp, hmin⟩ := least_mem l (fun e => by rw [e] at h2; simp at h2)
    have hk := hasK_of m (hiB F (p + 1) &&& R p) (l.erase p) ⟨h1.erase p, by rw [List.length_erase_of_mem hp]; omega, fun q hq => by
      rw [h1.mem_erase_iff] at hq
      have := hmin q hq.2
      refine ⟨(h3 q hq.2).1, ?_⟩
      rw [Nat.testBit_and, hiB_bit, (h3 q hq.2).2, h4 p hp q hq.2 (fun e => hq.1 e.symm), decide_eq_true (show p + 1 ≤ q by omega)]
      rfl, fun a ha b hb hne => h4 a (List.mem_of_mem_erase ha) b (List.mem_of_mem_erase hb) hne⟩
    rw [← hasT_N]
    exact hasT_of (h3 p hp).2 hk N (h3 p hp).1
theorem hasK_iff {R : Nat → Nat} {N : Nat} (hsym : ∀ p q, p < N → q < N → (R p).testBit q = (R q).testBit p) {m F : Nat} : hasK R N m F = true ↔ ∃ l, Uc R N m F l :=
  ⟨hasK_ex hsym m F, fun ⟨l, h⟩ => hasK_of m F l h⟩
theorem hasK_congr {R S : Nat → Nat} {N F : Nat} (h : ∀ p, p < N → R p = S p) : ∀ m F, hasK R N m F = hasK S N m F := by
  have h2 : ∀ m F, cC R N m F = cC S N m F := by
    intro m
    induction m with
    | zero => intro F; rfl
    | succ m ih =>
      intro F
      rw [cC_succ, cC_succ]
      refine sm_congr N fun p hp => ?_
      unfold cT
      rw [h p hp, ih]
  intro m F
  unfold hasK
  rw [h2]
theorem rwN_sym {bs : List Nat} {c : Int} {N : Nat} : ∀ p q, p < N → q < N → (rwN bs c N p).testBit q = (rwN bs c N q).testBit p := by
  intro p q hp hq
  unfold rwN; rw [arK_bit, arK_bit, decide_eq_true hp, decide_eq_true hq]
  by_cases e : p = q
  · subst e; rfl
  · rw [nbB_ne e, nbB_ne (fun x => e x.symm)]
    unfold colAt
    rw [eix_comm (i := (p : Int)) (j := (q : Int)) (by omega)]
end Go.Proofs.YtckffliiidgilaaDoor
/- Numbers of ways to part a set into free sets: point by point and set by set. Nothing of the program. -/
namespace Go.Proofs.YtckffliiidgilaaDoor
set_option linter.unusedVariables false
set_option linter.unusedSimpArgs false
/-- The sum of g over all subsets of the first N points of S. -/
def sub : Nat → Nat → (Nat → Nat) → Nat
  | 0, _, g => g 0
  | N + 1, S, g => sub N S g + (if S.testBit N = true then sub N S (fun p => g (2 ^ N + p)) else 0)
theorem sub_low : ∀ (N : Nat) {S T : Nat} (g : Nat → Nat), (∀ j, j < N → S.testBit j = T.testBit j) → sub N S g = sub N T g
  | 0, _, _, _, _ => rfl
  | N + 1, S, T, g, h => by
    rw [sub, sub, sub_low N g (fun j hj => h j (by omega)), sub_low N (fun p => g (2 ^ N + p)) (fun j hj => h j (by omega)), h N (by omega)]
theorem sub_add (N S : Nat) : ∀ g h : Nat → Nat, sub N S (fun p => g p + h p) = sub N S g + sub N S h := by
  induction N with
  | zero => intro g h; rfl
  | succ N ih =>
    intro g h
    rw [sub, sub, sub, ih]
    split
    · rw [ih]; omega
    · omega
theorem sub_zero (N S : Nat) : sub N S (fun _ => 0) = 0 := by
  induction N with
  | zero => rfl
  | succ N ih => rw [sub, ih]; split <;> simp [ih]
theorem sub_sm (N S : Nat) (g : Nat → Nat → Nat) : ∀ K, sub N S (fun p => sm (fun c => g c p) K) = sm (fun c => sub N S (g c)) K
  | 0 => sub_zero N S
  | K + 1 => by
    show sub N S (fun p => sm (fun c => g c p) K + g K p) = _
    rw [sub_add, sub_sm N S g K, sm]
theorem sub_le {B : Nat} : ∀ (N S : Nat) (g : Nat → Nat), (∀ p, p < 2 ^ N → g p ≤ B) → sub N S g ≤ 2 ^ N * B
  | 0, S, g, h => by have := h 0 (by simp); simp [sub]; exact this
  | N + 1, S, g, h => by
    have h1 := sub_le N S g (fun p hp => h p (by rw [Nat.pow_succ]; omega))
    have h2 := sub_le N S (fun p => g (2 ^ N + p)) (fun p hp => h _ (by rw [Nat.pow_succ]; omega))
    rw [sub, Nat.pow_succ, Nat.mul_assoc, Nat.mul_comm 2 B, ← Nat.mul_assoc, Nat.mul_two]
    split <;> omega
theorem hi_sub {N p S : Nat} (hp : p < 2 ^ N) : (2 ^ N + p) &&& S = 2 ^ N + p ↔ (S.testBit N = true ∧ p &&& S = p) := by
  have hb : ∀ j, (2 ^ N + p).testBit j = (decide (j = N) || p.testBit j) := fun j => by
    have e := Nat.two_pow_add_eq_or_of_lt hp 1
    rw [Nat.mul_one] at e
    rw [e, Nat.testBit_or, Nat.testBit_two_pow]
    congr 1
    simp only [eq_comm]
  constructor
  · intro h
    have h2 : ∀ j, ((2 ^ N + p) &&& S).testBit j = (2 ^ N + p).testBit j := fun j => by rw [h]
    refine ⟨?_, Nat.eq_of_testBit_eq fun j => ?_⟩
    · have := h2 N
      rw [Nat.testBit_and, hb] at this
      simpa using this
    · have := h2 j
      rw [Nat.testBit_and, hb] at this
      rw [Nat.testBit_and]
      by_cases e : j = N
      · subst e
        rw [Nat.testBit_lt_two_pow hp]; rfl
      · rw [decide_eq_false e, Bool.false_or] at this; exact this
  · rintro ⟨h1, h2⟩
    apply Nat.eq_of_testBit_eq
    intro j
    have h3 : (p &&& S).testBit j = p.testBit j := by rw [h2]
    rw [Nat.testBit_and] at h3
    rw [Nat.testBit_and, hb]
    by_cases e : j = N
    · subst e; rw [h1]; simp
    · rw [decide_eq_false e, Bool.false_or]; exact h3
theorem sub_congr {S : Nat} : ∀ (N : Nat) {g h : Nat → Nat}, (∀ p, p < 2 ^ N → p &&& S = p → g p = h p) → sub N S g = sub N S h
  | 0, g, h, e => e 0 (by simp) (by simp)
  | N + 1, g, h, e => by
    rw [sub, sub, sub_congr N (g := g) (h := h) (fun p hp hs => e p (by rw [Nat.pow_succ]; omega) hs)]
    by_cases hb : S.testBit N = true
    · rw [if_pos hb, if_pos hb, sub_congr N (g := fun p => g (2 ^ N + p)) (h := fun p => h (2 ^ N + p)) (fun p hp hs => e _ (by rw [Nat.pow_succ]; omega) ((hi_sub hp).2 ⟨hb, hs⟩))]
    · rw [if_neg hb, if_neg hb]
theorem sm_two (f : Nat → Nat) (a : Nat) : ∀ b, sm f (a + b) = sm f a + sm (fun i => f (a + i)) b
  | 0 => rfl
  | b + 1 => by rw [← Nat.add_assoc, sm, sm_two f a b, sm]; omega
theorem sub_eq {S : Nat} : ∀ (N : Nat) (g : Nat → Nat), sub N S g = sm (fun p => if p &&& S = p then g p else 0) (2 ^ N)
  | 0, g => by simp [sub, sm]
  | N + 1, g => by
    rw [sub, Nat.pow_succ, Nat.mul_two, sm_two, ← sub_eq N g]
    congr 1
    by_cases hb : S.testBit N = true
    · rw [if_pos hb, sub_eq N]
      refine sm_congr _ fun i hi => ?_
      by_cases h : i &&& S = i
      · rw [if_pos h, if_pos ((hi_sub hi).2 ⟨hb, h⟩)]
      · rw [if_neg h, if_neg (fun h2 => h ((hi_sub hi).1 h2).2)]
    · rw [if_neg hb, sm_zero' _ (fun i hi => if_neg (fun h2 => hb ((hi_sub hi).1 h2).1))]
theorem orb_bit {a n j : Nat} : (a ||| 2 ^ n).testBit j = (a.testBit j || decide (j = n)) := by
  rw [Nat.testBit_or, Nat.testBit_two_pow]
  congr 1
  simp only [eq_comm]
theorem sub_split {n T : Nat} (hT : T.testBit n = false) : ∀ (N : Nat) (g : Nat → Nat), n < N → sub N (T ||| 2 ^ n) g = sub N T g + sub N T (fun p => g (p ||| 2 ^ n))
  | 0, g, h => by omega
  | N + 1, g, h => by
    by_cases e : n = N
    · subst e
      have h1 : ∀ (g : Nat → Nat), sub n (T ||| 2 ^ n) g = sub n T g := fun g => sub_low n g fun j hj => by rw [orb_bit, decide_eq_false (by omega), Bool.or_false]
      rw [sub, sub, sub, h1, h1, orb_bit, hT]
      simp
      exact sub_congr n fun p hp _ => by
        have e2 := Nat.two_pow_add_eq_or_of_lt hp 1
        rw [Nat.mul_one] at e2
        rw [e2, Nat.or_comm]
    · have hb : (T ||| 2 ^ n).testBit N = T.testBit N := by rw [orb_bit, decide_eq_false (fun x => e x.symm), Bool.or_false]
      rw [sub, sub, sub, sub_split hT N g (by omega), sub_split hT N _ (by omega), hb]
      have h2 : sub N T (fun p => g (2 ^ N + (p ||| 2 ^ n))) = sub N T (fun p => g ((2 ^ N + p) ||| 2 ^ n)) := sub_congr N fun p hp _ => by
        have hlt : p ||| 2 ^ n < 2 ^ N := Nat.or_lt_two_pow hp (Nat.pow_lt_pow_right (by omega) (by omega))
        have e1 := Nat.two_pow_add_eq_or_of_lt hp 1
        have e2 := Nat.two_pow_add_eq_or_of_lt hlt 1
        rw [Nat.mul_one] at e1 e2
        rw [e1, e2, Nat.or_assoc]
      by_cases hN : T.testBit N = true
      · rw [if_pos hN, if_pos hN, if_pos hN, h2]; omega
      · rw [if_neg hN, if_neg hN, if_neg hN]; omega
theorem sm_mul (a : Nat) (f : Nat → Nat) : ∀ m, a * sm f m = sm (fun i => a * f i) m
  | 0 => rfl
  | m + 1 => by rw [sm, Nat.mul_add, sm_mul a f m, sm]
theorem sm_head (f : Nat → Nat) : ∀ m, sm f (m + 1) = f 0 + sm (fun i => f (i + 1)) m
  | 0 => by simp [sm]
  | m + 1 => by rw [sm, sm_head f m, sm]; omega
/-- The sets of S for the last e colours, each way with its weight. -/
def Wb (w : Nat → Nat → Nat) (K N : Nat) (s : Nat → Nat) : Nat → Nat → Nat
  | 0, S => if S = 0 then 1 else 0
  | e + 1, S => sub N S fun p => w (K - (e + 1)) (s (K - (e + 1)) ||| p) * Wb w K N s e (S ^^^ p)
theorem setF_same (f : Nat → Nat) (i v : Nat) : setF f i v i = v := by simp [setF]
theorem setF_ne (f : Nat → Nat) {i j : Nat} (v : Nat) (h : j ≠ i) : setF f i v j = f j := by simp [setF, h]
theorem Wb_setF {w : Nat → Nat → Nat} {K N : Nat} {s : Nat → Nat} {c v : Nat} : ∀ (e S : Nat), e ≤ K → c < K - e → Wb w K N (setF s c v) e S = Wb w K N s e S
  | 0, _, _, _ => rfl
  | e + 1, S, he, hc => by
    rw [Wb, Wb]
    refine sub_congr N fun p _ _ => ?_
    rw [setF_ne _ _ (by omega), Wb_setF e _ (by omega) (by omega)]
theorem sub_of {T p : Nat} (h : p &&& T = p) (j : Nat) : (p.testBit j && T.testBit j) = p.testBit j := by rw [← Nat.testBit_and, h]
theorem Wb_point {w : Nat → Nat → Nat} {K N n : Nat} (hn : n < N) : ∀ (e : Nat) (s : Nat → Nat) (T : Nat), e ≤ K → T.testBit n = false →
    Wb w K N s e (T ||| 2 ^ n) = sm (fun i => Wb w K N (setF s (K - e + i) (s (K - e + i) ||| 2 ^ n)) e T) e
  | 0, s, T, _, hT => by
    rw [Wb, if_neg]
    · rfl
    · intro h
      have := orb_bit (a := T) (n := n) (j := n)
      rw [h] at this; simp at this
  | e + 1, s, T, he, hT => by
    have hbn : ∀ p, p &&& T = p → p.testBit n = false := fun p hp => by have := sub_of hp n; rw [hT] at this; simpa using this.symm
    rw [Wb, sub_split hT N _ hn]
    have h1 : sub N T (fun p => w (K - (e + 1)) (s (K - (e + 1)) ||| p) * Wb w K N s e ((T ||| 2 ^ n) ^^^ p)) =
        sm (fun i => Wb w K N (setF s (K - e + i) (s (K - e + i) ||| 2 ^ n)) (e + 1) T) e := by
      have h2 : sub N T (fun p => w (K - (e + 1)) (s (K - (e + 1)) ||| p) * Wb w K N s e ((T ||| 2 ^ n) ^^^ p)) =
          sub N T (fun p => sm (fun i => w (K - (e + 1)) (s (K - (e + 1)) ||| p) * Wb w K N (setF s (K - e + i) (s (K - e + i) ||| 2 ^ n)) e (T ^^^ p)) e) := sub_congr N fun p hp hs => by
        have e1 : (T ||| 2 ^ n) ^^^ p = (T ^^^ p) ||| 2 ^ n := by
          apply Nat.eq_of_testBit_eq
          intro j
          rw [Nat.testBit_xor, orb_bit, orb_bit, Nat.testBit_xor]
          by_cases ej : j = n
          · subst ej; rw [hbn p hs]; simp
          · rw [decide_eq_false ej]; simp
        have e2 : (T ^^^ p).testBit n = false := by rw [Nat.testBit_xor, hT, hbn p hs]; rfl
        rw [e1, Wb_point hn e s _ (by omega) e2, sm_mul]
      rw [h2, sub_sm]
      refine sm_congr e fun i hi => ?_
      rw [Wb, setF_ne _ _ (by omega)]
    have h3 : sub N T (fun p => w (K - (e + 1)) (s (K - (e + 1)) ||| (p ||| 2 ^ n)) * Wb w K N s e ((T ||| 2 ^ n) ^^^ (p ||| 2 ^ n))) = Wb w K N (setF s (K - (e + 1)) (s (K - (e + 1)) ||| 2 ^ n)) (e + 1) T := by
      rw [Wb, setF_same]
      refine sub_congr N fun p hp hs => ?_
      have e1 : (T ||| 2 ^ n) ^^^ (p ||| 2 ^ n) = T ^^^ p := by
        apply Nat.eq_of_testBit_eq
        intro j
        rw [Nat.testBit_xor, orb_bit, orb_bit, Nat.testBit_xor]
        by_cases ej : j = n
        · subst ej; rw [hbn p hs, hT]; simp
        · rw [decide_eq_false ej]; simp
      rw [e1, Wb_setF e _ (by omega) (by omega), Nat.or_assoc, Nat.or_comm p]
    rw [h1, h3, sm_head]
    have h4 : ∀ i, K - (e + 1) + (i + 1) = K - e + i := fun i => by omega
    rw [Nat.add_zero, Nat.add_comm]
    congr 1
    exact sm_congr e fun i hi => by rw [h4]
theorem Wb_dead {w : Nat → Nat → Nat} {K N c : Nat} {s : Nat → Nat} (hc : c < K) (h : ∀ p, w c (s c ||| p) = 0) : ∀ (e S : Nat), e ≤ K → K - e ≤ c → Wb w K N s e S = 0
  | 0, S, _, hk => by omega
  | e + 1, S, he, hk => by
    rw [Wb, ← sub_zero N S]
    refine sub_congr N fun p _ _ => ?_
    by_cases e1 : c = K - (e + 1)
    · rw [← e1, h, Nat.zero_mul]
    · rw [Wb_dead hc h e _ (by omega) (by omega), Nat.mul_zero]
theorem sub_none (N : Nat) (g : Nat → Nat) : sub N 0 g = g 0 := by
  induction N with
  | zero => rfl
  | succ N ih => rw [sub, ih]; simp
theorem Wb_leaf {w : Nat → Nat → Nat} {K N : Nat} {s : Nat → Nat} : ∀ e, e ≤ K → (∀ c, K - e ≤ c → c < K → w c (s c) = 1) → Wb w K N s e 0 = 1
  | 0, _, _ => rfl
  | e + 1, he, h => by
    rw [Wb, sub_none, Nat.or_zero, h _ (Nat.le_refl _) (by omega), Nat.one_mul]
    exact Wb_leaf e (by omega) (fun c h1 h2 => h c (by omega) h2)
/-- Point by point. -/
def dcn (ok : Nat → Nat → Nat → Bool) (K N : Nat) (fin : Nat → Nat) : Nat → (Nat → Nat) → Nat
  | 0, s => fin (s 0)
  | r + 1, s => sm (fun c => if ok c (N - (r + 1)) (s c) = true then dcn ok K N fin r (setF s c (s c ||| 2 ^ (N - (r + 1)))) else 0) K
/-- The last r points. -/
def rst (N r : Nat) : Nat := arK (fun j => decide (N - r ≤ j)) N
theorem rst_bit {N r j : Nat} : (rst N r).testBit j = (decide (j < N) && decide (N - r ≤ j)) := arK_bit _ _ _
theorem rst_0 (N : Nat) : rst N 0 = 0 := by
  apply Nat.eq_of_testBit_eq
  intro j
  rw [rst_bit, Nat.zero_testBit]
  by_cases h : j < N
  · rw [decide_eq_false (show ¬ N - 0 ≤ j by omega)]; simp
  · rw [decide_eq_false h]; rfl
theorem rst_succ {N r : Nat} (h : r < N) : rst N (r + 1) = rst N r ||| 2 ^ (N - (r + 1)) := by
  apply Nat.eq_of_testBit_eq
  intro j
  rw [orb_bit, rst_bit, rst_bit]
  by_cases h1 : j < N
  · rw [decide_eq_true h1, Bool.true_and, Bool.true_and]
    by_cases e : j = N - (r + 1)
    · rw [decide_eq_true e, decide_eq_true (by omega)]; simp
    · rw [decide_eq_false e, Bool.or_false]
      by_cases h2 : N - (r + 1) ≤ j
      · rw [decide_eq_true h2, decide_eq_true (by omega)]
      · rw [decide_eq_false h2, decide_eq_false (by omega)]
  · rw [decide_eq_false h1, decide_eq_false (show ¬ j = N - (r + 1) by omega)]; simp
theorem rst_full (N : Nat) : rst N N = 2 ^ N - 1 := by
  apply Nat.eq_of_testBit_eq
  intro j
  rw [rst_bit, Nat.testBit_two_pow_sub_one, decide_eq_true (show N - N ≤ j by omega), Bool.and_true]
/-- The weight of a class. -/
def wgt (fr : Nat → Nat → Bool) (fin : Nat → Nat) (c p : Nat) : Nat := if fr c p = true then (if c = 0 then fin p else 1) else 0
theorem dcn_W {ok : Nat → Nat → Nat → Bool} {fr : Nat → Nat → Bool} {fin : Nat → Nat} {K N : Nat} (hK : 1 ≤ K) (hmono : ∀ c p q, c < K → fr c p = false → fr c (p ||| q) = false)
    (hok : ∀ c n T, c < K → n < N → T < 2 ^ n → fr c T = true → ok c n T = fr c (T ||| 2 ^ n)) : ∀ (r : Nat) (s : Nat → Nat), r ≤ N → (∀ c, c < K → s c < 2 ^ (N - r) ∧ fr c (s c) = true) →
    dcn ok K N fin r s = Wb (wgt fr fin) K N s K (rst N r)
  | 0, s, _, hs => by
    rw [dcn, rst_0]
    obtain ⟨E, rfl⟩ : ∃ E, K = E + 1 := ⟨K - 1, by omega⟩
    rw [Wb, sub_none, Nat.or_zero, Nat.sub_self, Nat.xor_self, Wb_leaf E (by omega) (fun c h1 h2 => by unfold wgt; rw [(hs c h2).2]; simp; omega), Nat.mul_one]
    unfold wgt
    rw [(hs 0 (by omega)).2]; simp
  | r + 1, s, hr, hs => by
    rw [dcn, rst_succ (by omega), Wb_point (by omega) K s _ (Nat.le_refl _) (by rw [rst_bit, decide_eq_false (show ¬ N - r ≤ N - (r + 1) by omega), Bool.and_false])]
    refine sm_congr K fun c hc => ?_
    rw [Nat.sub_self, Nat.zero_add]
    have hsc := hs c hc
    rw [hok c _ _ hc (by omega) hsc.1 hsc.2]
    by_cases hf : fr c (s c ||| 2 ^ (N - (r + 1))) = true
    · rw [if_pos hf]
      refine dcn_W hK hmono hok r _ (by omega) (fun c' hc' => ?_)
      by_cases e : c' = c
      · subst e
        rw [setF_same]
        refine ⟨?_, hf⟩
        have h2 : 2 ^ (N - (r + 1)) < 2 ^ (N - r) := Nat.pow_lt_pow_right (by omega) (by omega)
        exact Nat.or_lt_two_pow (Nat.lt_trans hsc.1 h2) h2
      · rw [setF_ne _ _ e]
        exact ⟨Nat.lt_of_lt_of_le (hs c' hc').1 (Nat.pow_le_pow_right (by omega) (by omega)), (hs c' hc').2⟩
    · rw [if_neg hf]
      refine (Wb_dead hc (fun p => ?_) K _ (Nat.le_refl _) (by omega)).symm
      unfold wgt
      rw [setF_same, hmono c _ p hc (by simpa using hf)]; rfl
end Go.Proofs.YtckffliiidgilaaDoor
/- Extensions counted: what both sides answer. Nothing of the program. -/
namespace Go.Proofs.YtckffliiidgilaaDoor
set_option linter.unusedVariables false
set_option linter.unusedSimpArgs false
/-- May a class be S: has it no clique that needs one point more? -/
def fre (bs : List Nat) (N : Nat) (zs : List Int) (c S : Nat) : Bool := !hasK (rwN bs (c : Int) N) N ((zs.getD c 0).toNat - 1) S
def okx (bs : List Nat) (N : Nat) (zs : List Int) (c n T : Nat) : Bool := !hasK (rwN bs (c : Int) N) N ((zs.getD c 0).toNat - 2) (T &&& rwN bs (c : Int) N n)
/-- No size is 1. -/
def no1 (zs : List Int) (K : Nat) : Prop := ∀ c, c < K → 2 ≤ zs.getD c 0
theorem fre_mono {bs : List Nat} {N : Nat} {zs : List Int} (c p q : Nat) (h : fre bs N zs c p = false) : fre bs N zs c (p ||| q) = false := by
  unfold fre at h ⊢
  have h1 : hasK (rwN bs (c : Int) N) N ((zs.getD c 0).toNat - 1) p = true := by simpa using h
  obtain ⟨l, a1, a2, a3, a4⟩ := (hasK_iff rwN_sym).1 h1
  rw [hasK_of _ _ l ⟨a1, a2, fun x hx => ⟨(a3 x hx).1, by rw [Nat.testBit_or, (a3 x hx).2]; rfl⟩, a4⟩]; rfl
theorem fre_ok {bs : List Nat} {N K : Nat} {zs : List Int} (h2 : no1 zs K) (c n T : Nat) (hc : c < K) (hn : n < N) (hT : T < 2 ^ n) (hf : fre bs N zs c T = true) : okx bs N zs c n T = fre bs N zs c (T ||| 2 ^ n) := by
  have hz := h2 c hc
  unfold fre at hf ⊢
  unfold okx
  have hf' : hasK (rwN bs (c : Int) N) N ((zs.getD c 0).toNat - 1) T = false := by simpa using hf
  obtain ⟨m, hm⟩ : ∃ m : Nat, (zs.getD c 0).toNat = m + 2 := ⟨(zs.getD c 0).toNat - 2, by omega⟩
  rw [hm] at hf' ⊢
  simp only [Nat.add_sub_cancel] at hf' ⊢
  rw [show m + 2 - 1 = m + 1 by omega] at hf' ⊢
  congr 1
  have hTn : T.testBit n = false := Nat.testBit_lt_two_pow hT
  have hsym := rwN_sym (bs := bs) (c := (c : Int)) (N := N)
  rw [Bool.eq_iff_iff]
  constructor
  · intro h
    obtain ⟨l, a1, a2, a3, a4⟩ := (hasK_iff hsym).1 h
    have hl : ∀ x ∈ l, x < N ∧ T.testBit x = true ∧ (rwN bs (c : Int) N n).testBit x = true := fun x hx => by
      have := a3 x hx
      rw [Nat.testBit_and, Bool.and_eq_true] at this
      exact this
    refine hasK_of _ _ (n :: l) ⟨?_, by simp [a2], ?_, ?_⟩
    · rw [List.nodup_cons]
      exact ⟨fun hx => absurd ((hl n hx).2.1) (by rw [hTn]; simp), a1⟩
    · intro x hx
      rcases List.mem_cons.1 hx with e | hx
      · rw [e, orb_bit]; exact ⟨hn, by simp⟩
      · rw [orb_bit, (hl x hx).2.1]; exact ⟨(hl x hx).1, rfl⟩
    · intro x hx y hy hne
      rcases List.mem_cons.1 hx with e | hx
      · rcases List.mem_cons.1 hy with e' | hy
        · exact absurd (e.trans e'.symm) hne
        · rw [e]; exact (hl y hy).2.2
      · rcases List.mem_cons.1 hy with e' | hy
        · rw [e', hsym x n (hl x hx).1 hn]; exact (hl x hx).2.2
        · exact a4 x hx y hy hne
  · intro h
    obtain ⟨l, a1, a2, a3, a4⟩ := (hasK_iff hsym).1 h
    by_cases hnl : n ∈ l
    · refine hasK_of _ _ (l.erase n) ⟨a1.erase n, by rw [List.length_erase_of_mem hnl]; omega, ?_, fun x hx y hy hne => a4 x (List.mem_of_mem_erase hx) y (List.mem_of_mem_erase hy) hne⟩
      intro x hx
      rw [a1.mem_erase_iff] at hx
      have h3 := a3 x hx.2
      rw [orb_bit, decide_eq_false hx.1, Bool.or_false] at h3
      exact ⟨h3.1, by rw [Nat.testBit_and, h3.2, a4 n hnl x hx.2 (fun e => hx.1 e.symm)]; rfl⟩
    · have : hasK (rwN bs (c : Int) N) N (m + 1) T = true := hasK_of _ _ l ⟨a1, a2, fun x hx => by
        have h3 := a3 x hx
        rw [orb_bit, decide_eq_false (show ¬ x = n from fun e => hnl (by rw [← e]; exact hx)), Bool.or_false] at h3
        exact h3, a4⟩
      rw [hf'] at this; cases this
/-- How often the colour 0 has d points. -/
def fnd (d T : Nat) : Nat := if ones T = d then 1 else 0
/-- The weights of the classes; the ways from a colour on. -/
def wyG (bs : List Nat) (N : Nat) (zs : List Int) (d : Nat) : Nat → Nat → Nat := wgt (fre bs N zs) (fnd d)
def wyW (bs : List Nat) (N K : Nat) (zs : List Int) (e S : Nat) : Nat := Wb (wyG bs N zs 0) K N (fun _ => 0) e S
theorem Wb_tail {w v : Nat → Nat → Nat} {K N : Nat} {s : Nat → Nat} (h : ∀ c p, 1 ≤ c → w c p = v c p) : ∀ e S, e + 1 ≤ K → Wb w K N s e S = Wb v K N s e S
  | 0, _, _ => rfl
  | e + 1, S, he => by
    rw [Wb, Wb]
    exact sub_congr N fun p _ _ => by rw [h _ _ (by omega), Wb_tail h e _ (by omega)]
/-- The numbers of extensions by degree. -/
def cdN (bs : List Nat) (N K : Nat) (zs : List Int) (d : Nat) : Nat := dcn (okx bs N zs) K N (fnd d) N (fun _ => 0)
theorem fre_empty {bs : List Nat} {N K : Nat} {zs : List Int} (hN : N ≤ 17) (h2 : no1 zs K) {c : Nat} (hc : c < K) : fre bs N zs c 0 = true := by
  have := h2 c hc
  unfold fre
  rw [hasK_few hN (by simp) (by rw [ones_0]; omega)]; rfl
/-- What the program sums. -/
def pdN (bs : List Nat) (N K : Nat) (zs : List Int) (d j : Nat) : Nat := sm (fun S => if fre bs N zs 0 S = true ∧ ones S = d then wyW bs N K zs (K - 1) ((2 ^ N - 1) ^^^ S) else 0) j
theorem cd_pd {bs : List Nat} {N K : Nat} {zs : List Int} (hN : N ≤ 17) (hK : 1 ≤ K) (h2 : no1 zs K) (d : Nat) : cdN bs N K zs d = pdN bs N K zs d (2 ^ N) := by
  unfold cdN pdN
  rw [dcn_W (fr := fre bs N zs) hK (fun c p q _ h => fre_mono c p q h) (fun c n T hc hn hT hf => fre_ok h2 c n T hc hn hT hf) N _ (Nat.le_refl _) (fun c hc => ⟨Nat.two_pow_pos _, fre_empty hN h2 hc⟩), rst_full]
  obtain ⟨E, rfl⟩ : ∃ E, K = E + 1 := ⟨K - 1, by omega⟩
  rw [Wb, sub_eq]
  refine sm_congr _ fun S hS => ?_
  have hsub : S &&& (2 ^ N - 1) = S := by rw [Nat.and_two_pow_sub_one_eq_mod]; exact Nat.mod_eq_of_lt hS
  rw [if_pos hsub, Nat.sub_self, Nat.zero_or, Nat.add_sub_cancel]
  unfold wyW
  rw [Wb_tail (w := wgt (fre bs N zs) (fnd d)) (v := wyG bs N zs 0) (fun c p hc => by unfold wyG wgt; rw [if_neg (show ¬ c = 0 by omega), if_neg (show ¬ c = 0 by omega)]) E _ (by omega)]
  unfold wgt fnd
  by_cases h3 : fre bs N zs 0 S = true
  · by_cases h4 : ones S = d
    · simp [h3, h4]
    · simp [h3, h4]
  · simp [h3]
theorem wy_zero (bs : List Nat) (N K : Nat) (zs : List Int) (S : Nat) : wyW bs N K zs 0 S = if S = 0 then 1 else 0 := rfl
theorem wy_succ {bs : List Nat} {N K : Nat} {zs : List Int} {e : Nat} (he : e + 2 ≤ K) (S : Nat) : wyW bs N K zs (e + 1) S = sm (fun p => if p &&& S = p ∧ fre bs N zs (K - (e + 1)) p = true then wyW bs N K zs e (S ^^^ p) else 0) (2 ^ N) := by
  unfold wyW
  rw [Wb, sub_eq]
  refine sm_congr _ fun p hp => ?_
  rw [Nat.zero_or]
  unfold wyG wgt
  by_cases h1 : p &&& S = p
  · by_cases h2 : fre bs N zs (K - (e + 1)) p = true
    · rw [if_pos h1, if_pos h2, if_neg (by omega), if_pos ⟨h1, h2⟩, Nat.one_mul]
    · rw [if_pos h1, if_neg h2, if_neg (fun h => h2 h.2), Nat.zero_mul]
  · rw [if_neg h1, if_neg (fun h => h1 h.1)]
theorem wy_le {bs : List Nat} {N K : Nat} {zs : List Int} : ∀ e S, e + 1 ≤ K → wyW bs N K zs e S ≤ (2 ^ N) ^ e
  | 0, S, _ => by rw [wy_zero]; split <;> simp
  | e + 1, S, he => by
    unfold wyW
    rw [Wb, Nat.pow_succ, Nat.mul_comm]
    refine sub_le N S _ fun p _ => ?_
    have h1 := wy_le (bs := bs) (N := N) (K := K) (zs := zs) e (S ^^^ p) (by omega)
    have h2 : wyG bs N zs 0 (K - (e + 1)) ((fun _ => 0) (K - (e + 1)) ||| p) ≤ 1 := by unfold wyG wgt; split <;> (try split) <;> omega
    unfold wyW at h1
    calc _ ≤ 1 * (2 ^ N) ^ e := Nat.mul_le_mul h2 h1
      _ = _ := Nat.one_mul _
end Go.Proofs.YtckffliiidgilaaDoor
/- Where the beginnings of a colouring stop avoiding sizes. Nothing of the program. -/
namespace Go.Proofs.YtckffliiidgilaaDoor
set_option linter.unusedVariables false
set_option linter.unusedSimpArgs false
/-- Greater points first, each two of them neighbours. -/
def Chn (R : Nat → Nat) (s : List Nat) : Prop := s.Pairwise fun a b => b < a ∧ (R b).testBit a = true
theorem cqE_chn {R : Nat → Nat} {N : Nat} : ∀ (d : Nat) (t c : List Nat), d ≤ N → Chn R t → (∀ a ∈ t, a < N - d) → c ∈ cqE (fitR R) N d t → Chn R c ∧ c ≠ [] ∧ ∀ a ∈ c, a < N
  | 0, t, c, _, _, _, h => by simp [cqE] at h
  | d + 1, t, c, hd, ht, hb, h => by
    have hrest : c ∈ cqE (fitR R) N d t → Chn R c ∧ c ≠ [] ∧ ∀ a ∈ c, a < N := fun h => cqE_chn d t c (by omega) ht (fun a ha => by have := hb a ha; omega) h
    rw [cqE] at h
    split at h
    · rename_i hf
      have hch : Chn R ((N - (d + 1)) :: t) := by
        refine List.pairwise_cons.2 ⟨fun b hbm => ⟨hb b hbm, ?_⟩, ht⟩
        exact (List.all_eq_true.1 hf) b hbm
      rcases List.mem_cons.1 h with rfl | h
      · exact ⟨hch, by simp, fun a ha => by
          rcases List.mem_cons.1 ha with rfl | ha
          · omega
          · have := hb a ha; omega⟩
      · rcases List.mem_append.1 h with h | h
        · exact cqE_chn d _ c (by omega) hch (fun a ha => by
            rcases List.mem_cons.1 ha with rfl | ha
            · omega
            · have := hb a ha; omega) h
        · exact hrest h
    · exact hrest h
theorem chn_cqE {R : Nat → Nat} {N : Nat} : ∀ (d : Nat) (t r : List Nat), d ≤ N → r ≠ [] → Chn R (r.reverse ++ t) → (∀ a ∈ r, N - d ≤ a ∧ a < N) → r.reverse ++ t ∈ cqE (fitR R) N d t
  | 0, t, r, _, hr, _, hb => by
    cases r with
    | nil => exact absurd rfl hr
    | cons v r => have := hb v (by simp); omega
  | d + 1, t, r, hd, hr, hc, hb => by
    cases r with
    | nil => exact absurd rfl hr
    | cons v r =>
      have e : (v :: r).reverse ++ t = r.reverse ++ (v :: t) := by simp
      rw [e] at hc
      have hgt : ∀ a ∈ r, v < a := fun a ha => ((List.pairwise_append.1 hc).2.2 a (by simpa using ha) v (by simp)).1
      have hv := hb v (by simp)
      by_cases hj : v = N - (d + 1)
      · have hf : fitR R t (N - (d + 1)) = true := by
          refine List.all_eq_true.2 fun b hbm => ?_
          rw [← hj]
          exact ((List.pairwise_cons.1 (List.pairwise_append.1 hc).2.1).1 b hbm).2
        rw [e, cqE, if_pos hf, ← hj]
        cases r with
        | nil => simp
        | cons u r =>
          refine List.mem_cons_of_mem _ (List.mem_append_left _ ?_)
          exact chn_cqE d (v :: t) (u :: r) (by omega) (by simp) hc (fun a ha => ⟨by have := hgt a ha; omega, (hb a (List.mem_cons_of_mem _ ha)).2⟩)
      · have hm : (v :: r).reverse ++ t ∈ cqE (fitR R) N d t := chn_cqE d t (v :: r) (by omega) hr (by rw [e]; exact hc) (fun a ha => ⟨by
          rcases List.mem_cons.1 ha with rfl | ha
          · omega
          · have := hgt a ha; omega, (hb a ha).2⟩)
        rw [cqE]
        split
        · exact List.mem_cons_of_mem _ (List.mem_append_right _ hm)
        · exact hm
theorem mem_cqE {R : Nat → Nat} {N : Nat} {s : List Nat} : s ∈ cqE (fitR R) N N [] ↔ s ≠ [] ∧ Chn R s ∧ ∀ a ∈ s, a < N := by
  constructor
  · intro h
    obtain ⟨h1, h2, h3⟩ := cqE_chn N [] s (Nat.le_refl _) List.Pairwise.nil (by simp) h
    exact ⟨h2, h1, h3⟩
  · rintro ⟨h1, h2, h3⟩
    have := chn_cqE (R := R) (N := N) N [] s.reverse (Nat.le_refl _) (by simpa using h1) (by simpa using h2) (fun a ha => ⟨by omega, h3 a (by simpa using ha)⟩)
    simpa using this
theorem chn_uc {R : Nat → Nat} {N : Nat} (hsym : ∀ p q, p < N → q < N → (R p).testBit q = (R q).testBit p) {s : List Nat} (h : Chn R s) (hb : ∀ a ∈ s, a < N) : Uc R N s.length (2 ^ N - 1) s := by
  refine ⟨h.imp (fun h e => by omega), rfl, fun p hp => ⟨hb p hp, full_bit (hb p hp)⟩, ?_⟩
  intro p hp q hq hne
  obtain ⟨i, hi, rfl⟩ := List.getElem_of_mem hp
  obtain ⟨j, hj, rfl⟩ := List.getElem_of_mem hq
  have hp2 := List.pairwise_iff_getElem.1 h
  rcases Nat.lt_trichotomy i j with hlt | heq | hgt
  · rw [hsym _ _ (hb _ (List.getElem_mem hi)) (hb _ (List.getElem_mem hj))]; exact (hp2 i j hi hj hlt).2
  · subst heq; exact absurd rfl hne
  · exact (hp2 j i hj hi hgt).2
/-- The neighbours among the first points are the same ones. -/
theorem rwN_small {bs : List Nat} {c : Int} {M N p q : Nat} (hM : M ≤ N) (hq : q < M) : (rwN bs c M p).testBit q = (rwN bs c N p).testBit q := by
  unfold rwN; rw [arK_bit, arK_bit, decide_eq_true hq, decide_eq_true (show q < N by omega)]
theorem beg_of {bs : List Nat} {c : Int} {N q : Nat} {s : List Nat} (h : (q :: s) ∈ cqE (fitR (rwN bs c N)) N N []) : hasK (rwN bs c (q + 1)) (q + 1) (q :: s).length (2 ^ (q + 1) - 1) = true := by
  obtain ⟨_, h2, h3⟩ := mem_cqE.1 h
  have hq := h3 q (by simp)
  have hlt : ∀ a ∈ q :: s, a < q + 1 := fun a ha => by
    rcases List.mem_cons.1 ha with rfl | ha
    · omega
    · have := ((List.pairwise_cons.1 h2).1 a ha).1; omega
  refine hasK_of _ _ (q :: s) (chn_uc rwN_sym ?_ hlt)
  refine List.Pairwise.imp_of_mem ?_ h2
  intro a b ha hb hab
  exact ⟨hab.1, by rw [rwN_small (N := N) (by omega) (hlt a ha)]; exact hab.2⟩
theorem beg_ex {bs : List Nat} {c : Int} {N q m : Nat} (hq : q < N) (hm : m ≠ 0) (h : hasK (rwN bs c (q + 1)) (q + 1) m (2 ^ (q + 1) - 1) = true) : ∃ p s, p ≤ q ∧ (p :: s) ∈ cqE (fitR (rwN bs c N)) N N [] ∧ (p :: s).length = m := by
  have hl := clqL_cnt bs c (q + 1) m
  have hpos : 0 < (clqL bs c (q + 1) m).length := by rw [hl]; exact of_decide_eq_true h
  unfold clqL at hpos
  rw [cqH_less (by simpa using fun e => hm e.symm)] at hpos
  unfold cqL at hpos
  rw [List.length_map] at hpos
  obtain ⟨s, hs⟩ := List.exists_mem_of_length_pos hpos
  rw [List.mem_filter] at hs
  obtain ⟨h1, h2, h3⟩ := mem_cqE.1 hs.1
  cases s with
  | nil => exact absurd rfl h1
  | cons p s =>
    refine ⟨p, s, by have := h3 p (by simp); omega, mem_cqE.2 ⟨by simp, ?_, fun a ha => by have := h3 a ha; omega⟩, of_decide_eq_true hs.2⟩
    refine List.Pairwise.imp_of_mem ?_ h2
    intro a b ha hb hab
    exact ⟨hab.1, by rw [← rwN_small (M := q + 1) (by omega) (h3 a ha)]; exact hab.2⟩
end Go.Proofs.YtckffliiidgilaaDoor
/- LongestBeginning: where the first clique of its size is whole. Nothing of the program. -/
namespace Go.Proofs.YtckffliiidgilaaDoor
set_option linter.unusedVariables false
set_option linter.unusedSimpArgs false
/-- The first number below N that P holds of, or N. -/
def fst' (P : Nat → Bool) : Nat → Nat
  | 0 => 0
  | N + 1 => if fst' P N < N then fst' P N else if P N = true then N else N + 1
theorem fst_le (P : Nat → Bool) : ∀ N, fst' P N ≤ N
  | 0 => Nat.le_refl _
  | N + 1 => by
    have := fst_le P N
    rw [fst']
    split
    · omega
    · split <;> omega
theorem fst_is {P : Nat → Bool} : ∀ {N : Nat}, fst' P N < N → P (fst' P N) = true
  | 0, h => absurd h (by simp)
  | N + 1, h => by
    rw [fst'] at h ⊢
    by_cases h1 : fst' P N < N
    · rw [if_pos h1]; exact fst_is h1
    · rw [if_neg h1] at h ⊢
      by_cases h2 : P N = true
      · rw [if_pos h2]; exact h2
      · rw [if_neg h2] at h; omega
theorem fst_hit {P : Nat → Bool} {q : Nat} (hq : P q = true) : ∀ {N : Nat}, q < N → fst' P N ≤ q
  | 0, h => absurd h (by simp)
  | N + 1, h => by
    rw [fst']
    by_cases e : q = N
    · subst e
      split
      · omega
      · simp [hq]
    · have := fst_hit hq (N := N) (by omega)
      rw [if_pos (by omega)]; exact this
theorem fst_eq {P : Nat → Bool} {N m : Nat} (hm : m < N) (h : P m = true) (h0 : ∀ j, j < m → P j = false) : fst' P N = m := by
  have h1 := fst_hit h hm
  by_cases e : fst' P N = m
  · exact e
  · have h2 := fst_is (P := P) (N := N) (by omega)
    rw [h0 _ (by omega)] at h2; cases h2
theorem fst_none {P : Nat → Bool} {N : Nat} (h0 : ∀ j, j < N → P j = false) : fst' P N = N := by
  by_cases e : fst' P N = N
  · exact e
  · have h1 := fst_le P N
    have h2 := fst_is (P := P) (N := N) (by omega)
    rw [h0 _ (by omega)] at h2; cases h2
def lbP (bs : List Nat) (zs : List Int) (K : Nat) (m : Nat) : Bool := !avP (m + 1) bs zs K
def lbN (N : Nat) (bs : List Nat) (zs : List Int) (K : Nat) : Nat := fst' (lbP bs zs K) N
def lgV (n k : Int) (bs : List Nat) (zs : List Int) : Int := if szCode n k bs zs = 0 then (lbN n.toNat bs zs k.toNat : Int) else 0
theorem cs_mem {bs : List Nat} {c : Int} {N : Nat} {m : Int} (hN : N ≤ 17) {s : List Nat} (h : s ∈ csL (nsF bs c (eseq N)) N m) : s ∈ cqE (fitR (rwN bs c N)) N N [] ∧ (s.length : Int) = m := by
  unfold csL at h
  rw [List.mem_filter] at h
  have h1 : s ∈ cqE (fitR (nsF bs c (eseq N))) N N [] := h.1
  obtain ⟨h2, h3, h4⟩ := mem_cqE.1 h1
  refine ⟨mem_cqE.2 ⟨h2, List.Pairwise.imp_of_mem (fun {a b} ha hb hab => ⟨hab.1, by rw [← nsF_rw bs c (h4 b hb) hN]; exact hab.2⟩) h3, h4⟩, of_decide_eq_true h.2⟩
theorem mem_cs {bs : List Nat} {c : Int} {N : Nat} {m : Int} (hN : N ≤ 17) {s : List Nat} (h : s ∈ cqE (fitR (rwN bs c N)) N N []) (hm : (s.length : Int) = m) : s ∈ csL (nsF bs c (eseq N)) N m := by
  unfold csL
  rw [List.mem_filter]
  obtain ⟨h2, h3, h4⟩ := mem_cqE.1 h
  refine ⟨?_, decide_eq_true hm⟩
  show s ∈ cqE (fitR (nsF bs c (eseq N))) N N []
  exact mem_cqE.2 ⟨h2, List.Pairwise.imp_of_mem (fun {a b} ha hb hab => ⟨hab.1, by rw [nsF_rw bs c (h4 b hb) hN]; exact hab.2⟩) h3, h4⟩
theorem cs_shape {bs : List Nat} {c : Int} {N : Nat} {m : Int} (hN : N ≤ 17) {s : List Nat} (h : s ∈ csL (nsF bs c (eseq N)) N m) : ∃ q r, s = q :: r ∧ q < N ∧ ∀ p ∈ r, p < q := by
  obtain ⟨h1, _⟩ := cs_mem hN h
  obtain ⟨h2, h3, h4⟩ := mem_cqE.1 h1
  cases s with
  | nil => exact absurd rfl h2
  | cons q r => exact ⟨q, r, rfl, h4 q (by simp), fun p hp => ((List.pairwise_cons.1 h3).1 p hp).1⟩
theorem lb_low {N K : Nat} {bs : List Nat} {zs : List Int} (hN : N ≤ 17) {c q : Nat} {r : List Nat} (hc : c < K) (h : (q :: r) ∈ csL (nsF bs (c : Int) (eseq N)) N (zs.getD c 0)) : lbN N bs zs K ≤ q := by
  obtain ⟨h1, h2⟩ := cs_mem hN h
  have hq := (mem_cqE.1 h1).2.2 q (by simp)
  have hk := beg_of h1
  refine fst_hit ?_ hq
  unfold lbP
  rw [avP_fall (N := q + 1) (d := c) (m := K) _ hc]
  · rfl
  · rw [clqL_has, ← h2, Int.toNat_natCast, hk]; rfl
theorem lb_ex {N K : Nat} {bs : List Nat} {zs : List Int} (hN : N ≤ 17) (hsz : szP zs K = true) (h : lbN N bs zs K < N) : ∃ c, c < K ∧ ∃ q r, (q :: r) ∈ csL (nsF bs (c : Int) (eseq N)) N (zs.getD c 0) ∧ q ≤ lbN N bs zs K := by
  have h1 : lbP bs zs K (lbN N bs zs K) = true := fst_is h
  have h2 : avP (lbN N bs zs K + 1) bs zs K = false := by
    unfold lbP at h1
    cases hx : avP (lbN N bs zs K + 1) bs zs K with
    | false => rfl
    | true => rw [hx] at h1; cases h1
  unfold avP at h2
  rw [List.all_eq_false] at h2
  obtain ⟨c, hc, h3⟩ := h2
  have hcK := List.mem_range.1 hc
  have hin := inB_bd (szP_get hsz hcK)
  rw [clqL_has] at h3
  have h4 : hasK (rwN bs (c : Int) (lbN N bs zs K + 1)) (lbN N bs zs K + 1) (zs.getD c 0).toNat (2 ^ (lbN N bs zs K + 1) - 1) = true := by
    cases hx : hasK (rwN bs (c : Int) (lbN N bs zs K + 1)) (lbN N bs zs K + 1) (zs.getD c 0).toNat (2 ^ (lbN N bs zs K + 1) - 1) with
    | true => rfl
    | false => rw [hx] at h3; simp at h3
  obtain ⟨p, s, h5, h6, h7⟩ := beg_ex h (by omega) h4
  exact ⟨c, hcK, p, s, mem_cs hN h6 (by omega), h5⟩
/-- What is told of the least end that has come. -/
def LgI (N K : Nat) (bs : List Nat) (zs : List Int) (d : Nat) (L : List (List Nat)) (j lg : Nat) : Prop :=
  lg ≤ N ∧ lbN N bs zs K ≤ lg ∧ (∀ c, c < d → ∀ q r, (q :: r) ∈ csL (nsF bs (c : Int) (eseq N)) N (zs.getD c 0) → lg ≤ q) ∧ ∀ i q r, i < j → L[i]? = some (q :: r) → lg ≤ q
theorem LgI.start (N K : Nat) (bs : List Nat) (zs : List Int) : LgI N K bs zs 0 [] 0 N := ⟨Nat.le_refl _, fst_le _ _, fun c hc => by omega, fun i q r hi => by omega⟩
theorem LgI.inner {N K d lg : Nat} {bs : List Nat} {zs : List Int} (h : LgI N K bs zs d [] 0 lg) (L : List (List Nat)) : LgI N K bs zs d L 0 lg := ⟨h.1, h.2.1, h.2.2.1, fun i q r hi => by omega⟩
theorem LgI.step {N K d j lg q : Nat} {bs : List Nat} {zs : List Int} {r : List Nat} (hN : N ≤ 17) (hd : d < K) (h : LgI N K bs zs d (csL (nsF bs (d : Int) (eseq N)) N (zs.getD d 0)) j lg) (hj : (csL (nsF bs (d : Int) (eseq N)) N (zs.getD d 0))[j]? = some (q :: r)) :
    LgI N K bs zs d (csL (nsF bs (d : Int) (eseq N)) N (zs.getD d 0)) (j + 1) (if q < lg then q else lg) := by
  have hm := List.mem_of_getElem? hj
  have hlo := lb_low (bs := bs) (zs := zs) (K := K) hN hd hm
  have hq := ((mem_cqE.1 (cs_mem hN hm).1).2.2 q (by simp))
  obtain ⟨h1, h2, h3, h4⟩ := h
  refine ⟨by split <;> omega, by split <;> omega, fun c hc q' r' hm' => ?_, fun i q' r' hi hm' => ?_⟩
  · have := h3 c hc q' r' hm'; split <;> omega
  · by_cases e : i = j
    · subst e; rw [hj] at hm'; cases hm'; split <;> omega
    · have := h4 i q' r' (by omega) hm'; split <;> omega
theorem LgI.next {N K d lg : Nat} {bs : List Nat} {zs : List Int} (hN : N ≤ 17) (h : LgI N K bs zs d (csL (nsF bs (d : Int) (eseq N)) N (zs.getD d 0)) (csL (nsF bs (d : Int) (eseq N)) N (zs.getD d 0)).length lg) : LgI N K bs zs (d + 1) [] 0 lg := by
  refine ⟨h.1, h.2.1, fun c hc q r hm => ?_, fun i q r hi => by omega⟩
  by_cases e : c = d
  · subst e
    obtain ⟨i, hi, hx⟩ := List.getElem_of_mem hm
    exact h.2.2.2 i q r hi (by rw [List.getElem?_eq_getElem hi, hx])
  · exact h.2.2.1 c (by omega) q r hm
theorem LgI.done {N K lg : Nat} {bs : List Nat} {zs : List Int} (hN : N ≤ 17) (hsz : szP zs K = true) (h : LgI N K bs zs K [] 0 lg) : lg = lbN N bs zs K := by
  have h1 := h.2.1
  by_cases hlt : lbN N bs zs K < N
  · obtain ⟨c, hc, q, r, hm, hq⟩ := lb_ex hN hsz hlt
    have := h.2.2.1 c hc q r hm
    omega
  · have := h.1; omega
end Go.Proofs.YtckffliiidgilaaDoor
/- Free sets: by the cliques of one size, and by the search. Nothing of the program but the lists of cliques. -/
namespace Go.Proofs.YtckffliiidgilaaDoor
set_option linter.unusedVariables false
set_option linter.unusedSimpArgs false
theorem mem_stK {X q : Nat} : ∀ k, q ∈ stK X k ↔ q < k ∧ X.testBit q = true
  | 0 => by simp [stK]
  | k + 1 => by
    rw [stK]
    have ih := mem_stK (X := X) (q := q) k
    by_cases hb : X.testBit k = true
    · rw [if_pos hb, List.mem_cons, ih]
      constructor
      · rintro (h | h)
        · subst h; exact ⟨by omega, hb⟩
        · exact ⟨by omega, h.2⟩
      · rintro ⟨h1, h2⟩
        by_cases e : q = k
        · exact .inl e
        · exact .inr ⟨by omega, h2⟩
    · rw [if_neg hb, ih]
      constructor
      · rintro ⟨h1, h2⟩; exact ⟨by omega, h2⟩
      · rintro ⟨h1, h2⟩
        refine ⟨?_, h2⟩
        by_cases e : q = k
        · subst e; exact absurd h2 hb
        · omega
theorem stK_desc {X : Nat} : ∀ k, (stK X k).Pairwise (· > ·)
  | 0 => List.Pairwise.nil
  | k + 1 => by
    rw [stK]
    split
    · exact List.pairwise_cons.2 ⟨fun q hq => ((mem_stK k).1 hq).1, stK_desc k⟩
    · exact stK_desc k
theorem adn_sub {s : List Nat} {S : Nat} (h17 : ∀ q ∈ s, q < 17) : adn (bitS s) S = 0 ↔ ∀ q ∈ s, S.testBit q = true := by
  have hX : bitS s < 2 ^ 32 := Nat.lt_of_lt_of_le (bitS_lt s h17) (Nat.pow_le_pow_right (by omega) (by omega))
  constructor
  · intro h q hq
    have h1 := adn_bit (a := bitS s) (b := S) (j := q) hX
    rw [h, bitS_bit, decide_eq_true hq] at h1
    simpa using h1.symm
  · intro h
    apply Nat.eq_of_testBit_eq
    intro j
    rw [adn_bit hX, bitS_bit, Nat.zero_testBit]
    by_cases hj : j ∈ s
    · rw [h j hj]; simp
    · rw [decide_eq_false hj]; rfl
/-- Some clique of the list lies in S. -/
theorem cs_in {bs : List Nat} {c : Int} {N m S : Nat} (hN : N ≤ 17) (hm : m ≠ 0) : (∃ s ∈ csL (nsF bs c (eseq N)) N (m : Int), adn (bitS s) S = 0) ↔ hasK (rwN bs c N) N m S = true := by
  have hsym := rwN_sym (bs := bs) (c := c) (N := N)
  constructor
  · rintro ⟨s, hs, ha⟩
    obtain ⟨h1, h2⟩ := cs_mem hN hs
    obtain ⟨h3, h4, h5⟩ := mem_cqE.1 h1
    obtain ⟨u1, u2, u3, u4⟩ := chn_uc hsym h4 h5
    exact hasK_of _ _ s ⟨u1, by omega, fun p hp => ⟨h5 p hp, (adn_sub (fun q hq => by have := h5 q hq; omega)).1 ha p hp⟩, u4⟩
  · intro h
    obtain ⟨l, a1, a2, a3, a4⟩ := (hasK_iff hsym).1 h
    have hmem : ∀ q, q ∈ stK (bitS l) N ↔ q ∈ l := fun q => by
      rw [mem_stK, bitS_bit, decide_eq_true_eq]
      exact ⟨fun h => h.2, fun h => ⟨(a3 q h).1, h⟩⟩
    have hd := stK_desc (X := bitS l) N
    have hlen : (stK (bitS l) N).length = m := by
      rw [← a2]
      exact ((List.perm_ext_iff_of_nodup (hd.imp (fun h e => by omega)) a1).2 hmem).length_eq
    refine ⟨stK (bitS l) N, mem_cs hN (mem_cqE.2 ⟨fun e => by rw [e] at hlen; simp at hlen; omega, ?_, fun q hq => (a3 q ((hmem q).1 hq)).1⟩) (by rw [hlen]), ?_⟩
    · refine List.Pairwise.imp_of_mem ?_ hd
      intro x y hx hy hxy
      exact ⟨hxy, a4 y ((hmem y).1 hy) x ((hmem x).1 hx) (by omega)⟩
    · refine (adn_sub (fun q hq => by have := (a3 q ((hmem q).1 hq)).1; omega)).2 fun q hq => (a3 q ((hmem q).1 hq)).2
theorem fre_no {bs : List Nat} {N K c S : Nat} {zs : List Int} (hN : N ≤ 17) (h2 : no1 zs K) (hc : c < K) {s : List Nat} (hs : s ∈ csL (nsF bs (c : Int) (eseq N)) N (zs.getD c 0 - 1)) (ha : adn (bitS s) S = 0) : fre bs N zs c S = false := by
  have hz := h2 c hc
  unfold fre
  rw [(cs_in hN (by omega)).1 ⟨s, by rw [show (((zs.getD c 0).toNat - 1 : Nat) : Int) = zs.getD c 0 - 1 by omega]; exact hs, ha⟩]; rfl
theorem fre_yes {bs : List Nat} {N K c S : Nat} {zs : List Int} (hN : N ≤ 17) (h2 : no1 zs K) (hc : c < K) (h : ∀ s ∈ csL (nsF bs (c : Int) (eseq N)) N (zs.getD c 0 - 1), adn (bitS s) S ≠ 0) : fre bs N zs c S = true := by
  have hz := h2 c hc
  unfold fre
  cases hk : hasK (rwN bs (c : Int) N) N ((zs.getD c 0).toNat - 1) S with
  | false => rfl
  | true =>
    obtain ⟨s, hs, ha⟩ := (cs_in hN (show (zs.getD c 0).toNat - 1 ≠ 0 by omega)).2 hk
    rw [show (((zs.getD c 0).toNat - 1 : Nat) : Int) = zs.getD c 0 - 1 by omega] at hs
    exact absurd ha (h s hs)
end Go.Proofs.YtckffliiidgilaaDoor
/- The ways from a colour on, summed over the parts of a set from the greatest down. Nothing of the program. -/
namespace Go.Proofs.YtckffliiidgilaaDoor
set_option linter.unusedVariables false
set_option linter.unusedSimpArgs false
open Go Go.RowKit
theorem i64_andnot {a b : Nat} (ha : a < 4611686018427387904) (hb : b &&& a = b) : bits .andNot .i64 (a : Int) (b : Int) = ((a ^^^ b : Nat) : Int) := by
  have hble : b ≤ a := by rw [← hb]; exact Nat.and_le_right
  have hx : a ^^^ b < 2 ^ 62 := Nat.xor_lt_two_pow (by omega) (by omega)
  show IntKind.i64.wrap ((BitVec.ofInt 64 (a : Int) &&& ~~~BitVec.ofInt 64 (b : Int)).toNat : Int) = _
  have e : (BitVec.ofInt 64 (a : Int) &&& ~~~BitVec.ofInt 64 (b : Int)).toNat = a ^^^ b := by
    rw [BitVec.ofInt_natCast, BitVec.ofInt_natCast]
    apply Nat.eq_of_testBit_eq
    intro j
    rw [BitVec.testBit_toNat, BitVec.getLsbD_and, BitVec.getLsbD_not, BitVec.getLsbD_ofNat, BitVec.getLsbD_ofNat, Nat.testBit_xor]
    have h1 := sub_of hb j
    by_cases hj : j < 64
    · simp only [hj, decide_true, Bool.true_and]
      cases h2 : a.testBit j <;> cases h3 : b.testBit j <;> simp_all
    · have ha' : a.testBit j = false := Nat.testBit_lt_two_pow (Nat.lt_of_lt_of_le ha (Nat.le_trans (by decide) (Nat.pow_le_pow_right (by decide) (show 62 ≤ j by omega))))
      rw [ha', Bool.and_false] at h1
      rw [ha', ← h1, decide_eq_false hj]; rfl
  rw [e]
  exact IntWalk.i64_in _ (by omega)
theorem sub_prev : ∀ (S t p : Nat), t &&& S = t → p &&& S = p → p < t → p ≤ (t - 1) &&& S := by
  intro S
  induction S using Nat.strongRecOn with
  | _ S ih =>
    intro t p ht hp hlt
    by_cases hS : S = 0
    · subst hS; rw [Nat.and_zero] at ht; omega
    · have ht2 : (t / 2) &&& (S / 2) = t / 2 := by rw [← Nat.and_div_two, ht]
      have hp2 : (p / 2) &&& (S / 2) = p / 2 := by rw [← Nat.and_div_two, hp]
      have hdiv : ((t - 1) &&& S) / 2 = ((t - 1) / 2) &&& (S / 2) := Nat.and_div_two
      have hpar : ∀ x : Nat, (x &&& S) % 2 = (x % 2) * (S % 2) := fun x => by
        rcases Nat.mod_two_eq_zero_or_one x with h1 | h1 <;> rcases Nat.mod_two_eq_zero_or_one S with h2 | h2 <;> rw [h1, h2]
        · have := Nat.and_mod_two_eq_one (a := x) (b := S); omega
        · have := Nat.and_mod_two_eq_one (a := x) (b := S); omega
        · have := Nat.and_mod_two_eq_one (a := x) (b := S); omega
        · exact Nat.and_mod_two_eq_one.2 ⟨h1, h2⟩
      have htp := hpar t
      have hpp := hpar p
      have hqp := hpar (t - 1)
      rw [ht] at htp
      rw [hp] at hpp
      rcases Nat.mod_two_eq_zero_or_one t with h1 | h1
      · have e1 : (t - 1) / 2 = t / 2 - 1 := by omega
        have h3 := ih (S / 2) (by omega) (t / 2) (p / 2) ht2 hp2 (by omega)
        rw [e1] at hdiv
        have h4 : (t - 1) % 2 = 1 := by omega
        rw [h4, Nat.one_mul] at hqp
        rcases Nat.mod_two_eq_zero_or_one S with h5 | h5 <;> rw [h5] at hpp hqp <;> omega
      · have e1 : (t - 1) / 2 = t / 2 := by omega
        rw [e1, ht2] at hdiv
        omega
theorem sm_gap {f : Nat → Nat} {a b : Nat} (hab : a ≤ b) (h : ∀ p, a ≤ p → p < b → f p = 0) : sm f b = sm f a := sm_rest b hab h
/-- A term of the sum. -/
def wyT (bs : List Nat) (N K : Nat) (zs : List Int) (e S p : Nat) : Nat := if p &&& S = p ∧ fre bs N zs (K - (e + 1)) p = true then wyW bs N K zs e (S ^^^ p) else 0
theorem wy_sum {bs : List Nat} {N K : Nat} {zs : List Int} {e : Nat} (he : e + 2 ≤ K) (S : Nat) : wyW bs N K zs (e + 1) S = sm (wyT bs N K zs e S) (2 ^ N) := wy_succ he S
/-- What is told when the parts down to t are still to come. -/
def WyI (bs : List Nat) (N K : Nat) (zs : List Int) (e S t v : Nat) : Prop := t &&& S = t ∧ v + sm (wyT bs N K zs e S) (t + 1) = wyW bs N K zs (e + 1) S + wyW bs N K zs e S
theorem wyT_0 {bs : List Nat} {N K : Nat} {zs : List Int} {e S : Nat} (hN : N ≤ 17) (h2 : no1 zs K) (he : e + 2 ≤ K) : wyT bs N K zs e S 0 = wyW bs N K zs e S := by
  unfold wyT
  rw [if_pos ⟨Nat.zero_and S, fre_empty hN h2 (by omega)⟩, Nat.xor_zero]
theorem WyI.start {bs : List Nat} {N K : Nat} {zs : List Int} {e S : Nat} (he : e + 2 ≤ K) (hS : S < 2 ^ N) : WyI bs N K zs e S S (wyW bs N K zs e S) := by
  refine ⟨Nat.and_self S, ?_⟩
  rw [wy_sum he, sm_gap (f := wyT bs N K zs e S) (a := S + 1) (b := 2 ^ N) (by omega) (fun p h1 _ => by
    unfold wyT
    rw [if_neg (fun h => by have := Nat.and_le_right (n := p) (m := S); rw [h.1] at this; omega)])]
  omega
theorem WyI.done {bs : List Nat} {N K : Nat} {zs : List Int} {e S v : Nat} (hN : N ≤ 17) (h2 : no1 zs K) (he : e + 2 ≤ K) (h : WyI bs N K zs e S 0 v) : v = wyW bs N K zs (e + 1) S := by
  have h3 := h.2
  have e1 : sm (wyT bs N K zs e S) (0 + 1) = wyT bs N K zs e S 0 := by simp [sm]
  rw [e1, wyT_0 hN h2 he] at h3
  omega
theorem WyI.step {bs : List Nat} {N K : Nat} {zs : List Int} {e S t v : Nat} (h : WyI bs N K zs e S t v) (ht : t ≠ 0) : WyI bs N K zs e S ((t - 1) &&& S) (v + if fre bs N zs (K - (e + 1)) t = true then wyW bs N K zs e (S ^^^ t) else 0) := by
  obtain ⟨h1, h2⟩ := h
  have hle : (t - 1) &&& S ≤ t - 1 := Nat.and_le_left
  refine ⟨by rw [Nat.and_assoc, Nat.and_self], ?_⟩
  have e1 : sm (wyT bs N K zs e S) t = sm (wyT bs N K zs e S) (((t - 1) &&& S) + 1) := sm_gap (by omega) (fun p h3 h4 => by
    unfold wyT
    rw [if_neg (fun h => by have := sub_prev S t p h1 h.1 h4; omega)])
  have e2 : wyT bs N K zs e S t = if fre bs N zs (K - (e + 1)) t = true then wyW bs N K zs e (S ^^^ t) else 0 := by
    unfold wyT
    by_cases hf : fre bs N zs (K - (e + 1)) t = true
    · rw [if_pos ⟨h1, hf⟩, if_pos hf]
    · rw [if_neg (fun h => hf h.2), if_neg hf]
  rw [sm, e2, e1] at h2
  omega
theorem WyI.le {bs : List Nat} {N K : Nat} {zs : List Int} {e S t v : Nat} (hN : N ≤ 12) (hK : K ≤ 4) (he : e + 2 ≤ K) (h : WyI bs N K zs e S t v) : v ≤ 562949953421312 := by
  have h1 := wy_le (bs := bs) (N := N) (K := K) (zs := zs) (e + 1) S (by omega)
  have h2 := wy_le (bs := bs) (N := N) (K := K) (zs := zs) e S (by omega)
  have h3 : ∀ i, i ≤ 4 → (2 ^ N) ^ i ≤ 281474976710656 := fun i hi => by
    have a1 : 2 ^ N ≤ 2 ^ 12 := Nat.pow_le_pow_right (by decide) hN
    have a2 : (2 ^ N) ^ i ≤ (2 ^ 12) ^ i := Nat.pow_le_pow_left a1 i
    have a3 : (2 ^ 12) ^ i ≤ (2 ^ 12) ^ 4 := Nat.pow_le_pow_right (by decide) hi
    exact Nat.le_trans a2 (Nat.le_trans a3 (by decide))
  have := h3 (e + 1) (by omega)
  have := h3 e (by omega)
  have := h.2
  omega
theorem wy_bd {bs : List Nat} {N K : Nat} {zs : List Int} {e S : Nat} (hN : N ≤ 12) (hK : K ≤ 4) (he : e + 1 ≤ K) : wyW bs N K zs e S ≤ 281474976710656 := by
  have h1 := wy_le (bs := bs) (N := N) (K := K) (zs := zs) e S he
  have a1 : 2 ^ N ≤ 2 ^ 12 := Nat.pow_le_pow_right (by decide) hN
  have a2 : (2 ^ N) ^ e ≤ (2 ^ 12) ^ e := Nat.pow_le_pow_left a1 e
  have a3 : (2 ^ 12) ^ e ≤ (2 ^ 12) ^ 4 := Nat.pow_le_pow_right (by decide) (by omega)
  exact Nat.le_trans h1 (Nat.le_trans a2 (Nat.le_trans a3 (by decide)))
end Go.Proofs.YtckffliiidgilaaDoor
/- l03Clique: is there a clique of m points in a set? -/
namespace Go.Proofs.YtckffliiidgilaaDoor
set_option linter.unusedVariables false
set_option linter.unusedSimpArgs false
open Go Go.RowKit Go.Shelf
theorem hiB_sub {F j : Nat} (h : F.testBit j = true) : hiB F j = hiB F (j + 1) + 2 ^ j := by
  unfold hiB
  rw [Nat.shiftLeft_eq, Nat.shiftLeft_eq, Nat.shiftRight_succ, Nat.pow_succ]
  have h2 : F >>> j % 2 = 1 := by
    rw [Nat.testBit_eq_decide_div_mod_eq] at h
    have := of_decide_eq_true h
    rw [Nat.shiftRight_eq_div_pow]; exact this
  have h3 : F >>> j = 2 * (F >>> j / 2) + 1 := by omega
  have h4 : F >>> j * 2 ^ j = (2 * (F >>> j / 2) + 1) * 2 ^ j := congrArg (· * 2 ^ j) h3
  rw [h4, Nat.add_mul, Nat.one_mul, Nat.mul_comm 2 (F >>> j / 2), Nat.mul_assoc, Nat.mul_comm 2]
theorem bit_zero (S j : Nat) (hS : S < 4611686018427387904) : (bits .and .i64 ((S : Int) / 2 ^ j) 1 == 0) = !S.testBit j := by
  have h := bit_test S j hS
  have e : ((S : Int) / 2 ^ j) = ((S / 2 ^ j : Nat) : Int) := by simp
  have hlt : S / 2 ^ j < 4611686018427387904 := Nat.lt_of_le_of_lt (Nat.div_le_self _ _) hS
  rw [e] at h ⊢
  have h2 := i64_and_nat (S / 2 ^ j) 1 hlt (by omega)
  rw [show ((1 : Nat) : Int) = 1 from rfl] at h2
  rw [h2] at h ⊢
  rw [← h, Nat.and_one_is_mod]
  have hm : S / 2 ^ j % 2 = 0 ∨ S / 2 ^ j % 2 = 1 := by omega
  rcases hm with hm | hm <;> rw [hm] <;> rfl
/-- The rows of neighbours. -/
abbrev cpG (bs : List Nat) (c : Int) (N : Nat) : Nat → Nat := rwN bs c N
theorem sub_bit {X Y j : Nat} (hX : X < 2 ^ 17) (hj : j < 17) (h : X = Y + 2 ^ j) : wrap64 ((X : Int) - wrap64 (2 ^ j)) = (Y : Int) := by
  have h2 : 2 ^ j < 2 ^ 17 := Nat.pow_lt_pow_right (by omega) hj
  have e : (2 : Int) ^ j = ((2 ^ j : Nat) : Int) := by simp
  rw [e]
  generalize 2 ^ j = y at *
  rw [IntWalk.wrap64_in (y : Int) ⟨by omega, by omega⟩, IntWalk.wrap64_in _ ⟨by omega, by omega⟩]; omega
set_option maxRecDepth 100000 in
set_option maxHeartbeats 4000000 in
theorem clq69 (N : Nat) (k c : Int) (bs : List Nat) (hb : Bys bs) (n1 : 1 ≤ N) (hN : N ≤ 17) : ∀ (m : Nat), m ≤ 17 → ∀ (F : Nat), F < 2 ^ 17 → ∀ (w : World),
    Calls Tryd.prog 69 #[.agg (ccells (N : Int) k bs).toArray, .int .i64 c, .int .i64 (F : Int), .int .i64 (m : Int)] w fun e w' => e = .returned (.bool (hasK (rwN bs c N) N m F)) ∧ Below w.heap.size w w'
  | 0, _, F, hF, w => by
    go_enter Tryd.func69, Tryd.ntmps69
    go_wp2_with fail
    go_ret
    exact ⟨rfl, (Below.refl _ _).alloc (Nat.le_refl _) _⟩
  | m + 1, hm, F, hF, w => by
    have HR := hidd (fun F hF W => clq69 N k c bs hb n1 hN m (by omega) F hF W)
    obtain ⟨M, hM⟩ : ∃ M : Nat, M = m + 1 := ⟨_, rfl⟩
    rw [← hM]
    have hm0 : ((M : Int) == 0) = false := by rw [beq_eq_false_iff_ne]; omega
    have hM1 : (M : Int) - 1 = (m : Int) := by omega
    have HM := hidd hM
    have HS := hidd (size_c26 (N : Int) k hb)
    have HC0 := hidd (show (ccells (N : Int) k bs).toArray[0]? = some (.int .i64 (N : Int)) from rfl)
    have HG := hidd (And.intro (Blk.new w (ccells (N : Int) k bs).toArray 28 _ rfl) ((Below.refl w.heap.size w).alloc (Nat.le_refl _) (.cells (ccells (N : Int) k bs).toArray 28)))
    have HO := hidd (fun W => ones65 F W (by omega))
    obtain ⟨o, ho⟩ : ∃ o, o = ones F := ⟨_, rfl⟩
    rw [← ho] at HO
    clear hM
    by_cases hge : o < M
    · have hfew := hasK_few (R := rwN bs c N) (m := M) hN hF (by rw [← ho]; exact hge)
      have hgI : decide ((o : Int) < (M : Int)) = true := by simp; omega
      rw [hfew]
      clear hfew ho
      go_enter Tryd.func69, Tryd.ntmps69
      go_wp2_with (go_at_call 94; refine (HO.out _).mono ?_; rintro e w' ⟨rfl, rfl⟩)
      go_ret
      exact ⟨rfl, HG.out.2⟩
    · have hgI : decide ((o : Int) < (M : Int)) = false := by simp; omega
      clear ho
      go_enter Tryd.func69, Tryd.ntmps69
      obtain ⟨W0, hW0⟩ : ∃ W0, W0 = w.alloc (.cells (ccells (N : Int) k bs).toArray 28) := ⟨_, rfl⟩
      rw [← hW0] at HG
      go_upto_region 1 with fail
      rw [← hW0]
      clear hW0
      go_wp2_with (go_at_call 94; refine (HO.out _).mono ?_; rintro e w' ⟨rfl, rfl⟩)
      go_loopw [2, 9] (fun f e wr => ∃ j : Nat, j ≤ N ∧ f = .int .i64 (hiB F j : Nat) ∧ e = .int .i64 (j : Int) ∧ Hid (hasT (rwN bs c N) N m F j = false ∧ Blk wr w.heap.size (ccells (N : Int) k bs).toArray 28 ∧ Below w.heap.size w wr)) (fun _ e _ => N - (intOf e).toNat)
      case atStart => exact ⟨0, by omega, by rw [hiB_zero], rfl, rfl, HG.out⟩
      case round =>
        obtain ⟨j, hj, rfl, rfl, HK⟩ := hrel
        have c0 := HK.out.2.1.cell HC0.out
        obtain ⟨X, hX⟩ : ∃ X, X = hiB F j := ⟨_, rfl⟩
        have hX17 : X < 2 ^ 17 := by rw [hX]; exact hiB_lt hF
        rw [← hX]
        by_cases hlt : j < N
        · cases hbit : X.testBit j with
          | true =>
            have hFb : F.testBit j = true := by rw [← hbit, hX, hiB_bitj]
            have hbt := (bit_zero X j (by omega)).trans (congrArg (!·) hbit)
            have hsub := sub_bit (j := j) (Y := hiB F (j + 1)) hX17 (by omega) (by rw [hX]; exact hiB_sub hFb)
            obtain ⟨Y, hY⟩ : ∃ Y, Y = hiB F (j + 1) := ⟨_, rfl⟩
            have hY17 : Y < 2 ^ 17 := by rw [hY]; exact hiB_lt hF
            have hst := hasT_step (R := rwN bs c N) (N := N) (m := m) hFb HK.out.1
            obtain ⟨r, hr⟩ : ∃ r, r = rwN bs c N j := ⟨_, rfl⟩
            have hr17 : r < 2 ^ 17 := by rw [hr]; unfold rwN; exact Nat.lt_of_lt_of_le (arK_lt _ _) (Nat.pow_le_pow_right (by omega) hN)
            have HAR := hidd (fun W => around63 (N : Int) k bs hb (j : Int) c W (by omega) (by omega) (by omega) (by omega))
            rw [Int.toNat_natCast, show arK (nbB bs (j : Int) c) N = rwN bs c N j from rfl, ← hr] at HAR
            have hand := i64_and_nat Y r (by omega) (by omega)
            have hA17 : Y &&& r < 2 ^ 17 := Nat.lt_of_le_of_lt Nat.and_le_left hY17
            rw [← hY] at hsub
            rw [← hY, ← hr] at hst
            obtain ⟨Z, hZ⟩ : ∃ Z, Z = Y &&& r := ⟨_, rfl⟩
            rw [← hZ] at hand hA17 hst
            have HCR := hidd (fun W => HR.out Z hA17 W)
            obtain ⟨v, hv⟩ : ∃ v, v = hasK (rwN bs c N) N m Z := ⟨_, rfl⟩
            rw [← hv] at HCR hst
            have hwm : IntKind.i64.wrap (m : Int) = m := IntWalk.i64_in _ (by omega)
            have HY := hidd hY
            have HST := hidd hst
            have HV := hidd hv
            clear hst hr hZ hv hY hX hbit hFb
            go_wp2_with fail
            refine wp_region_quiet_at (fun w' => Blk w' w.heap.size (ccells (N : Int) k bs).toArray 28 ∧ Below w.heap.size w w') rfl (by kernel_rfl) (show Blk wr.drew w.heap.size (ccells (N : Int) k bs).toArray 28 ∧ Below w.heap.size w wr.drew from ⟨HK.out.2.1.drew, below_drewN HK.out.2.2 1⟩) ?_
            refine qs rfl (fun KQ hKQ => ?_)
            apply Exists.intro
            refine ⟨fun w' hw' => ?_, ?_⟩
            · exact quietRow 28 (.tmp 4) rfl w.heap.size rfl 28 _ _ hw'.1 Tryd.underlying28 rfl HS.out
            go_simp
            refine hKQ _ ?_
            clear hKQ KQ
            refine qs rfl (fun KQ hKQ => ?_)
            apply Exists.intro
            refine ⟨fun w' hw' => ?_, ?_⟩
            · go_simp; exact rfl
            go_simp
            refine hKQ _ ?_
            clear hKQ KQ
            refine qs rfl (fun KQ hKQ => ?_)
            apply Exists.intro
            refine ⟨fun w' hw' => ?_, ?_⟩
            · go_simp; exact rfl
            go_simp
            refine hKQ _ ?_
            clear hKQ KQ
            refine qs rfl (fun KQ hKQ => ?_)
            apply Exists.intro
            refine ⟨fun w' hw' => ?_, ?_⟩
            · exact quietRow 28 (.tmp 4) rfl w.heap.size rfl 28 _ _ hw'.1 Tryd.underlying28 rfl HS.out
            go_simp
            refine hKQ _ ?_
            clear hKQ KQ
            refine qs rfl (fun KQ hKQ => ?_)
            apply Exists.intro
            refine ⟨fun w' hw' => ?_, ?_⟩
            · go_simp; exact rfl
            go_simp
            refine hKQ _ ?_
            clear hKQ KQ
            refine qs rfl (fun KQ hKQ => ?_)
            apply Exists.intro
            refine ⟨fun w' hw' => ?_, ?_⟩
            · go_simp; exact rfl
            go_simp
            refine hKQ _ ?_
            clear hKQ KQ
            refine qs rfl (fun KQ hKQ => ?_)
            apply Exists.intro
            refine ⟨fun w' hw' => ?_, ?_⟩
            · go_simp; exact (HAR.out _).mono fun _ _ h => ⟨h.1, hw'.1.below h.2 hw'.1.lt, hw'.2.trans (h.2.mono hw'.2.size)⟩
            go_simp
            refine hKQ _ ?_
            clear hKQ KQ
            refine qs rfl (fun KQ hKQ => ?_)
            apply Exists.intro
            refine ⟨fun w' hw' => ?_, ?_⟩
            · go_simp; exact rfl
            go_simp
            refine hKQ _ ?_
            clear hKQ KQ
            refine qs rfl (fun KQ hKQ => ?_)
            apply Exists.intro
            refine ⟨fun w' hw' => ?_, ?_⟩
            · go_simp; exact rfl
            go_simp
            refine hKQ _ ?_
            clear hKQ KQ
            refine qs rfl (fun KQ hKQ => ?_)
            apply Exists.intro
            refine ⟨fun w' hw' => ?_, ?_⟩
            · go_simp; exact rfl
            go_simp
            refine hKQ _ ?_
            clear hKQ KQ
            refine qs rfl (fun KQ hKQ => ?_)
            apply Exists.intro
            refine ⟨fun w' hw' => ?_, ?_⟩
            · go_simp; exact (HCR.out _).mono fun _ _ h => ⟨h.1, hw'.1.below h.2 hw'.1.lt, hw'.2.trans (h.2.mono hw'.2.size)⟩
            go_simp
            refine hKQ _ ?_
            clear hKQ KQ
            refine wpQuiet_nil ?_
            intro w' hw'
            have HW := hidd hw'
            clear hw'
            cases v with
            | true =>
              have HE := hidd (hasT_yes (show j + 1 ≤ N by omega) HST.out)
              go_wp2_with fail
              go_ret
              exact ⟨by rw [HM.out, HE.out]; rfl, HW.out.2⟩
            | false =>
              go_wp2_with fail
              go_roundw
              case rel => exact ⟨j + 1, by omega, by rw [HY.out], by go_num, HST.out, HW.out⟩
              case measure => simp [intOf]; omega
          | false =>
            have hFb : F.testBit j = false := by rw [← hbit, hX, hiB_bitj]
            have hbt := (bit_zero X j (by omega)).trans (congrArg (!·) hbit)
            have HST := hidd (hasT_skip hFb HK.out.1)
            have HX := hidd (hiB_skip hFb)
            have HE := hidd hX
            clear hX hbit hFb
            go_wp2_with fail
            go_roundw
            case rel => exact ⟨j + 1, by omega, by rw [HX.out, HE.out], by go_num, HST.out, HK.out.2⟩
            case measure => simp [intOf]; omega
        · have hje : j = N := by omega
          subst hje
          have HE := hidd HK.out.1
          clear hX
          go_wp2_with fail
          go_ret
          exact ⟨by rw [HM.out, ← hasT_N, HE.out]; rfl, HK.out.2.2⟩
end Go.Proofs.YtckffliiidgilaaDoor
/- l05Sizes, l05Code, l05Avoids: the model's codes, and whether a colouring avoids sizes. -/
namespace Go.Proofs.YtckffliiidgilaaDoor
set_option linter.unusedVariables false
set_option linter.unusedSimpArgs false
open Go Go.RowKit Go.Shelf
theorem full_facts {N : Nat} (n1 : 1 ≤ N) (hN17 : N ≤ 17) : ∃ FU Y : Nat, FU = 2 ^ N - 1 ∧ FU < 2 ^ 17 ∧ Y = FU + 1 ∧ min N 64 = N ∧ IntKind.u64.wrap (N : Int) = (N : Int) ∧ IntKind.i64.wrap (2 ^ N) = (Y : Int) ∧ wrap64 (2 ^ N) = (Y : Int) ∧ IntKind.i64.wrap ((Y : Int) - 1) = (FU : Int) ∧ wrap64 ((Y : Int) - 1) = (FU : Int) := by
  have h2 : 2 ^ N ≤ 2 ^ 17 := Nat.pow_le_pow_right (by omega) hN17
  have h1 : 1 ≤ 2 ^ N := Nat.one_le_two_pow
  have e : (2 : Int) ^ N = ((2 ^ N : Nat) : Int) := by simp
  rw [e]
  generalize 2 ^ N = z at *
  have e2 : ((z - 1 + 1 : Nat) : Int) = (z : Int) := by omega
  have e3 : ((z : Nat) : Int) - 1 = ((z - 1 : Nat) : Int) := by omega
  refine ⟨z - 1, z - 1 + 1, rfl, by omega, rfl, by omega, ?_, ?_, ?_, ?_, ?_⟩
  · unfold IntKind.wrap; simp [IntKind.signed, IntKind.bits]; omega
  · rw [e2]; exact IntWalk.i64_in _ (by omega)
  · rw [e2]; exact IntWalk.wrap64_in _ ⟨by omega, by omega⟩
  · rw [e2, e3]; exact IntWalk.i64_in _ (by omega)
  · rw [e2, e3]; exact IntWalk.wrap64_in _ ⟨by omega, by omega⟩
set_option maxRecDepth 100000 in
set_option maxHeartbeats 2000000 in
theorem sizes60 (k : Int) (zs : List Int) (a : Option Addr) (cap : Nat) (w : World) (hs : SlI w a zs) (hl : zs.length ≤ 1048576) :
    Calls Tryd.prog 60 #[.slice a zs.length cap, .int .i64 k] w fun e w' => e = .returned (.int .i64 (if szOk k zs then 0 else 2)) ∧ w = w' := by
  have HSL := hidd hs
  have hwl : IntKind.i64.wrap (zs.length : Int) = zs.length := IntWalk.i64_in _ (by omega)
  cases hlk : decide ((zs.length : Int) = k) with
  | false =>
    have hne : ((zs.length : Int) != k) = true := by rw [bne_iff_ne]; exact of_decide_eq_false hlk
    rw [show szOk k zs = false by unfold szOk; rw [hlk]; rfl]
    clear hlk hs
    go_enter Tryd.func60, Tryd.ntmps60
    go_wp2_with fail
    go_ret
    exact ⟨rfl, rfl⟩
  | true =>
    have hne : ((zs.length : Int) != k) = false := by rw [bne_eq_false_iff_eq]; exact of_decide_eq_true hlk
    have hsz : szOk k zs = szP zs zs.length := by unfold szOk; rw [hlk, Bool.true_and]
    rw [hsz]
    obtain ⟨cd, hcd⟩ : ∃ cd : Int, cd = if szP zs zs.length then 0 else 2 := ⟨_, rfl⟩
    rw [← hcd]
    have HCD := hidd hcd
    clear hlk hs hsz hcd
    go_enter Tryd.func60, Tryd.ntmps60
    go_wp2_with fail
    go_loopw [5] (fun e wr => ∃ j : Nat, j ≤ zs.length ∧ e = .int .i64 (j : Int) ∧ Hid (szP zs j = true ∧ w = wr)) (fun e _ => zs.length - (intOf e).toNat)
    case atStart => exact ⟨0, Nat.zero_le _, rfl, rfl, rfl⟩
    case round =>
      obtain ⟨j, hj, rfl, hpj, hww⟩ := hrel
      obtain rfl : w = wr := hww
      have HP := hidd hpj
      clear hpj
      by_cases hlt : j < zs.length
      · have hltI : decide ((j : Int) < (zs.length : Int)) = true := by simp; omega
        rcases HSL.out with hz | ⟨bl, off, ha, hc⟩
        · rw [hz] at hlt; simp at hlt
        · subst ha
          have cj := hc j hlt
          obtain ⟨z, hzz⟩ : ∃ z, z = zs.getD j 0 := ⟨_, rfl⟩
          rw [← hzz] at cj
          have hst := szP_step zs j
          rw [HP.out, Bool.true_and, ← hzz] at hst
          cases hin : inB z 1 17 with
          | true =>
            have HST := hidd (hst.trans hin)
            have HIN := hidd hin
            clear hc hst hin hzz
            go_wp2_with (go_at_call 59; refine (in49 _ _ _ _).mono ?_; rintro e w' ⟨rfl, rfl⟩; rw [HIN.out])
            go_roundw
            case rel => exact ⟨j + 1, by omega, by go_num, HST.out, trivial⟩
            case measure => simp [intOf]; omega
          | false =>
            have HST := hidd (szP_fall (zs := zs) (d := j) (by rw [← hzz]; exact hin) hlt)
            have HIN := hidd hin
            clear hc hst hin hzz
            go_wp2_with (go_at_call 59; refine (in49 _ _ _ _).mono ?_; rintro e w' ⟨rfl, rfl⟩; rw [HIN.out])
            go_ret
            exact ⟨by rw [HCD.out, HST.out]; rfl, rfl⟩
      · have hltI : decide ((j : Int) < (zs.length : Int)) = false := by simp; omega
        have hje : j = zs.length := by omega
        have HP2 := hidd (show szP zs zs.length = true by rw [← hje]; exact HP.out)
        clear hje
        go_wp2_with fail
        go_ret
        exact ⟨by rw [HCD.out, HP2.out]; rfl, rfl⟩
set_option maxRecDepth 100000 in
set_option maxHeartbeats 2000000 in
theorem code42 (n k : Int) (bs : List Nat) (hb : Bys bs) (zs : List Int) (a : Option Addr) (cap : Nat) (w : World) (hs : SlI w a zs) (hl : zs.length ≤ 1048576) :
    Calls Tryd.prog 42 #[.agg (ccells n k bs).toArray, .slice a zs.length cap] w fun e w' => e = .returned (.int .i64 (szCode n k bs zs)) ∧ Below w.heap.size w w' := by
  have HS := hidd (size_c26 n k hb)
  have HC1 := hidd (show (ccells n k bs).toArray[1]? = some (.int .i64 k) from rfl)
  have HSZ := hidd (fun W h => sizes60 k zs a cap W h hl)
  have HSL := hidd hs
  cases hi : isCol n k bs with
  | false =>
    have HI := hidd hi
    rw [szCode_1 hi]
    clear hi hs
    go_enter Tryd.func42, Tryd.ntmps42
    go_wp2_with (refine wpList_load_row rfl 28 (.tmp 2) rfl w.heap.size rfl 28 _ (0,0) _ (Blk.new _ _ _ _ rfl) Tryd.underlying28 rfl HS.out ?_)
    refine (l01Is_any n k bs hb _).mono ?_
    rintro e w1 ⟨rfl, hb1⟩
    rw [HI.out]
    have G := hidd (((Below.refl w.heap.size w).alloc (Nat.le_refl _) (.cells (ccells n k bs).toArray 28)).trans (hb1.mono (by simp)))
    clear hb1
    go_wp2_with fail
    go_ret
    exact ⟨rfl, G.out⟩
  | true =>
    have HI := hidd hi
    have hv : szCode n k bs zs = if szOk k zs then 0 else 2 := by unfold szCode; rw [hi, if_pos rfl]
    obtain ⟨v, hve⟩ : ∃ v : Int, v = if szOk k zs then 0 else 2 := ⟨_, rfl⟩
    rw [← hve] at HSZ hv
    rw [hv]
    clear hi hs hv hve
    go_enter Tryd.func42, Tryd.ntmps42
    go_wp2_with (refine wpList_load_row rfl 28 (.tmp 2) rfl w.heap.size rfl 28 _ (0,0) _ (Blk.new _ _ _ _ rfl) Tryd.underlying28 rfl HS.out ?_)
    refine (l01Is_any n k bs hb _).mono ?_
    rintro e w1 ⟨rfl, hb1⟩
    rw [HI.out]
    have c1 := ((Blk.new w (ccells n k bs).toArray 28 _ rfl).below hb1 (by simp)).cell HC1.out
    have G := hidd (((Below.refl w.heap.size w).alloc (Nat.le_refl _) (.cells (ccells n k bs).toArray 28)).trans (hb1.mono (by simp)))
    clear hb1
    go_wp2_with fail
    refine (HSZ.out _ (HSL.out.below G.out (Nat.le_refl _))).mono ?_
    rintro e w2 ⟨rfl, rfl⟩
    go_wp2_with fail
    go_ret
    exact ⟨rfl, G.out⟩
set_option maxRecDepth 100000 in
set_option maxHeartbeats 4000000 in
theorem avoids44 (N K : Nat) (bs : List Nat) (hb : Bys bs) (zs : List Int) (a : Option Addr) (cap : Nat) (w : World) (hs : SlI w a zs) (hl : zs.length = K) (n1 : 1 ≤ N) (hN17 : N ≤ 17) (hK : K ≤ 4) (hsz : szP zs K = true) :
    Calls Tryd.prog 44 #[.agg (ccells (N : Int) (K : Int) bs).toArray, .slice a K cap] w fun e w' => e = .returned (.bool (avP N bs zs K)) ∧ Below w.heap.size w w' := by
  have HS := hidd (size_c26 (N : Int) (K : Int) hb)
  have HC0 := hidd (show (ccells (N : Int) (K : Int) bs).toArray[0]? = some (.int .i64 (N : Int)) from rfl)
  have HC1 := hidd (show (ccells (N : Int) (K : Int) bs).toArray[1]? = some (.int .i64 (K : Int)) from rfl)
  have HSL := hidd hs
  have HLZ := hidd hl
  have HSZ := hidd hsz
  obtain ⟨FU, Y, hFU, hFU17, hY, hmn, hu, hsh, hsh2, hfu, hfu2⟩ := full_facts n1 hN17
  have HFU := hidd hFU
  clear hs hl hsz hFU hY
  go_enter Tryd.func44, Tryd.ntmps44
  go_wp2_with fail
  go_loopw [5] (fun e wr => ∃ d : Nat, d ≤ K ∧ e = .int .i64 (d : Int) ∧ Hid (avP N bs zs d = true ∧ Blk wr w.heap.size (ccells (N : Int) (K : Int) bs).toArray 28 ∧ Below w.heap.size w wr)) (fun e _ => K - (intOf e).toNat)
  case atStart => exact ⟨0, Nat.zero_le _, rfl, rfl, Blk.new _ _ _ _ rfl, (Below.refl _ _).alloc (Nat.le_refl _) _⟩
  case round =>
    obtain ⟨d, hd, rfl, HK⟩ := hrel
    have c1 := HK.out.2.1.cell HC1.out
    by_cases hlt : d < K
    · have hin := inB_bd (szP_get HSZ.out hlt)
      obtain ⟨m, hm⟩ := Int.eq_ofNat_of_zero_le (show 0 ≤ zs.getD d 0 by omega)
      have hm17 : m ≤ 17 := by omega
      rcases HSL.out with hz | ⟨bl, off, ha, hc⟩
      · have := HLZ.out; rw [hz] at this; simp at this; omega
      · subst ha
        have hcd := hc d (by have := HLZ.out; omega)
        rw [hm] at hcd
        have hst := avP_step N bs zs d
        have hfa := avP_fall (N := N) (bs := bs) (zs := zs) (d := d) (m := K)
        rw [hm, Int.toNat_natCast, clqL_has, ← HFU.out] at hst hfa
        rw [HK.out.1, Bool.true_and] at hst
        have HLI := hidd (fun W => clq69 N (K : Int) (d : Int) bs hb n1 hN17 m hm17 FU hFU17 W)
        obtain ⟨X, hX⟩ : ∃ X, X = hasK (rwN bs (d : Int) N) N m FU := ⟨_, rfl⟩
        rw [← hX] at HLI hst hfa
        have HCD := hidd (fun W (h : Below w.heap.size w W) => cell_below hcd h)
        have HST := hidd hst
        have HFA := hidd hfa
        clear hc hcd hst hfa hX hm hin
        go_wp2_with fail
        refine wp_region_quiet_at (fun w' => Blk w' w.heap.size (ccells (N : Int) (K : Int) bs).toArray 28 ∧ Below w.heap.size w w') rfl (by kernel_rfl) (show Blk wr.drew w.heap.size (ccells (N : Int) (K : Int) bs).toArray 28 ∧ Below w.heap.size w wr.drew from ⟨HK.out.2.1.drew, below_drewN HK.out.2.2 1⟩) ?_
        refine qs rfl (fun KQ hKQ => ?_)
        apply Exists.intro
        refine ⟨fun w' hw' => ?_, ?_⟩
        · exact quietRow 28 (.tmp 2) rfl w.heap.size rfl 28 _ _ hw'.1 Tryd.underlying28 rfl HS.out
        go_simp
        refine hKQ _ ?_
        clear hKQ KQ
        refine qs rfl (fun KQ hKQ => ?_)
        apply Exists.intro
        refine ⟨fun w' hw' => ?_, ?_⟩
        · go_simp; exact rfl
        go_simp
        refine hKQ _ ?_
        clear hKQ KQ
        refine qs rfl (fun KQ hKQ => ?_)
        apply Exists.intro
        refine ⟨fun w' hw' => ?_, ?_⟩
        · go_simp; exact rfl
        go_simp
        refine hKQ _ ?_
        clear hKQ KQ
        refine qs rfl (fun KQ hKQ => ?_)
        apply Exists.intro
        refine ⟨fun w' hw' => ?_, ?_⟩
        · have e0 := hw'.1.cell HC0.out; go_simp; exact rfl
        go_simp
        refine hKQ _ ?_
        clear hKQ KQ
        refine qs rfl (fun KQ hKQ => ?_)
        apply Exists.intro
        refine ⟨fun w' hw' => ?_, ?_⟩
        · go_simp; exact rfl
        go_simp
        refine hKQ _ ?_
        clear hKQ KQ
        refine qs rfl (fun KQ hKQ => ?_)
        apply Exists.intro
        refine ⟨fun w' hw' => ?_, ?_⟩
        · go_simp; exact rfl
        go_simp
        refine hKQ _ ?_
        clear hKQ KQ
        refine qs rfl (fun KQ hKQ => ?_)
        apply Exists.intro
        refine ⟨fun w' hw' => ?_, ?_⟩
        · go_simp; exact rfl
        go_simp
        refine hKQ _ ?_
        clear hKQ KQ
        refine qs rfl (fun KQ hKQ => ?_)
        apply Exists.intro
        refine ⟨fun w' hw' => ?_, ?_⟩
        · go_simp; exact rfl
        go_simp
        refine hKQ _ ?_
        clear hKQ KQ
        refine qs rfl (fun KQ hKQ => ?_)
        apply Exists.intro
        refine ⟨fun w' hw' => ?_, ?_⟩
        · go_simp; exact rfl
        go_simp
        refine hKQ _ ?_
        clear hKQ KQ
        refine qs rfl (fun KQ hKQ => ?_)
        apply Exists.intro
        refine ⟨fun w' hw' => ?_, ?_⟩
        · go_simp; exact rfl
        go_simp
        refine hKQ _ ?_
        clear hKQ KQ
        refine qs rfl (fun KQ hKQ => ?_)
        apply Exists.intro
        refine ⟨fun w' hw' => ?_, ?_⟩
        · have e1 := HCD.out _ hw'.2; go_simp; exact rfl
        go_simp
        refine hKQ _ ?_
        clear hKQ KQ
        refine qs rfl (fun KQ hKQ => ?_)
        apply Exists.intro
        refine ⟨fun w' hw' => ?_, ?_⟩
        · go_simp; exact (HLI.out _).mono fun _ _ h => ⟨h.1, hw'.1.below h.2 hw'.1.lt, hw'.2.trans (h.2.mono hw'.2.size)⟩
        go_simp
        refine hKQ _ ?_
        clear hKQ KQ
        refine wpQuiet_nil ?_
        intro w' hw'
        have HW := hidd hw'
        clear hw'
        cases X with
        | true =>
          have HE := hidd (HFA.out rfl hlt)
          go_wp2_with fail
          go_ret
          exact ⟨by rw [HE.out]; rfl, HW.out.2⟩
        | false =>
          go_wp2_with fail
          go_roundw
          case rel => exact ⟨d + 1, by omega, by go_num, HST.out, HW.out⟩
          case measure => simp [intOf]; omega
    · have hde : d = K := by omega
      have HE := hidd (show avP N bs zs K = true by rw [← hde]; exact HK.out.1)
      clear hde
      go_wp2_with fail
      go_ret
      exact ⟨by rw [HE.out]; rfl, HK.out.2.2⟩
end Go.Proofs.YtckffliiidgilaaDoor
/- freeSets. -/
namespace Go.Proofs.YtckffliiidgilaaDoor
set_option linter.unusedVariables false
set_option linter.unusedSimpArgs false
open Go Go.RowKit Go.Shelf
/-- Truth values of which the first j are told. -/
def bcl (f : Nat → Bool) (M j : Nat) : List Value := (List.range M).map fun i => .bool (decide (i < j) && f i)
theorem bcl_len (f : Nat → Bool) (M j : Nat) : (bcl f M j).length = M := by simp [bcl]
theorem bcl_get (f : Nat → Bool) {M j i : Nat} (h : i < M) : (bcl f M j).toArray[i]? = some (.bool (decide (i < j) && f i)) := by simp [bcl, h]
theorem bcl_skip {f : Nat → Bool} {M j : Nat} (h : f j = false) : bcl f M (j + 1) = bcl f M j := by
  unfold bcl
  refine List.map_congr_left fun i hi => ?_
  by_cases e : i = j
  · subst e; rw [h]; simp
  · by_cases h2 : i < j
    · rw [decide_eq_true h2, decide_eq_true (by omega)]
    · rw [decide_eq_false h2, decide_eq_false (by omega)]
theorem bcl_set {f : Nat → Bool} {M j : Nat} (h : f j = true) : (bcl f M j).toArray.setIfInBounds j (.bool true) = (bcl f M (j + 1)).toArray := by
  rw [List.setIfInBounds_toArray]
  congr 1
  apply List.ext_getElem
  · simp [bcl]
  · intro i h1 h2
    rw [List.getElem_set]
    by_cases e : j = i
    · subst e; rw [if_pos rfl]; simp [bcl, h]
    · rw [if_neg e]
      simp only [bcl, List.getElem_map, List.getElem_range]
      by_cases h3 : i < j
      · rw [decide_eq_true h3, decide_eq_true (by omega)]
      · rw [decide_eq_false h3, decide_eq_false (by omega)]
theorem info4 : (Tryd.prog.info? 4).map (fun i => (i.zero, i.size, i.bytes)) = some (some (.bool false), 1, 1) := by kernel_rfl
theorem make101 (f : Nat → Bool) (n : Nat) (h : n ≤ 1048576) (w : World) : (Instr.makeSlice 101 (.int .i64 n) (.int .i64 n)).run Tryd.prog w = .ok (.slice (some ⟨w.heap.size, 0, none⟩) n n) (w.alloc (.cells (bcl f n 0).toArray 4)) := by
  obtain ⟨i, hi, hz0, hz1, hz2⟩ := info_parts info4
  have := run_make (P := Tryd.prog) w 101 4 i (.bool false) Tryd.underlying101 hi hz0 .i64 .i64 n n (by omega) (by omega) (by rw [hz2]; omega) (by omega)
  rw [this, hz1]
  have e : madeCells #[Value.bool false] n = (bcl f n 0).toArray := by
    apply Array.ext_getElem?
    intro j
    by_cases hj : j < n
    · rw [bcl_get f hj]
      simp [madeCells, hj, Nat.mod_one]
    · simp [madeCells, bcl, hj]
  simp [Value.cells, e]
theorem quietMid {P : Program} {C : World → Prop} {o : Oper} {a : Act} {w : World} (ty : TypeId) (x : Operand) (ho : o.op = .load ty x)
    (b off : Nat) (hx : a.eval x = .pointer (some ⟨b, off, none⟩)) (cs : List Value) (d : TypeDesc) (hc : w.rangeAt b off cs)
    (hu : P.underlying ty = some d) (hd : d.isRow = true) (hi : (P.info? ty).map (·.size) = some cs.length) : o.quietAt P a C w (.agg cs.toArray) := by
  unfold Oper.quietAt execOp
  simp only [ho, hx, Instr.loadAt, Instr.sureAddr, Sem.run_bind, Sem.run_pure, Result.andThen_ok, run_loadVar_mid w b off ty cs d hc hu hd hi]
  exact ⟨rfl, rfl⟩
def RelFs (fr : Nat → Bool) (W1 : World) (M j : Nat) (wr : World) : Prop := Blk wr W1.heap.size (bcl fr M j).toArray 4 ∧ Below W1.heap.size W1 wr
set_option maxRecDepth 100000 in
set_option maxHeartbeats 4000000 in
theorem frs85 (N K c : Nat) (bs : List Nat) (hb : Bys bs) (zs : List Int) (a : Option Addr) (cap : Nat) (w : World) (hs : SlI w a zs) (hl : zs.length = K) (n1 : 1 ≤ N) (hN17 : N ≤ 17) (hK : K ≤ 4) (h2 : no1 zs K) (hsz : szP zs K = true) (hc : c < K) :
    Calls Tryd.prog 85 #[.agg (scl (N : Int) (K : Int) bs a K cap).toArray, .int .i64 (c : Int)] w fun e w' => ∃ g : Nat, e = .returned (.slice (some ⟨g, 0, none⟩) (2 ^ N) (2 ^ N)) ∧ w.heap.size ≤ g ∧ Blk w' g (bcl (fre bs N zs c) (2 ^ N) (2 ^ N)).toArray 4 ∧ Below w.heap.size w w' := by
  have HSL := hidd hs
  have hz2 := h2 c hc
  have hz17 := (inB_bd (szP_get hsz hc)).2
  have HNO := hidd (fun S s hs ha => fre_no (bs := bs) (c := c) (S := S) hN17 h2 hc (s := s) hs ha)
  have HYE := hidd (fun S h => fre_yes (bs := bs) (c := c) (S := S) hN17 h2 hc h)
  obtain ⟨z, hz⟩ : ∃ z, z = zs.getD c 0 := ⟨_, rfl⟩
  rw [← hz] at hz2 hz17 HNO HYE
  have hwz : IntKind.i64.wrap (z - 1) = z - 1 := IntWalk.i64_in _ (by omega)
  have HCO := hidd (fun W => cos75 N (K : Int) (c : Int) (z - 1) bs hb W n1 hN17)
  obtain ⟨fr, hfr⟩ : ∃ fr, fr = fre bs N zs c := ⟨_, rfl⟩
  rw [← hfr] at HNO HYE ⊢
  obtain ⟨L, hL⟩ : ∃ L, L = csL (nsF bs (c : Int) (eseq N)) N (z - 1) := ⟨_, rfl⟩
  rw [← hL] at HNO HYE HCO
  have hLM : L.length ≤ 131072 := by rw [hL]; unfold csL; exact Nat.le_trans (List.length_filter_le _ _) (cqR_many _ hN17)
  have HSH := hidd (fun s (hs : s ∈ L) => show ∀ q ∈ s, q < 17 by
    rw [hL] at hs
    intro q hq
    have := (mem_cqE.1 (cs_mem hN17 hs).1).2.2 q hq
    omega)
  obtain ⟨FU, Y, hFU, hFU17, hY, hmn, hu, hsh, hsh2, hfu, hfu2⟩ := full_facts n1 hN17
  have hYN : Y = 2 ^ N := by rw [hY, hFU]; exact Nat.sub_add_cancel Nat.one_le_two_pow
  have hY17 : Y ≤ 131072 := by rw [hYN]; exact Nat.pow_le_pow_right (by decide) hN17
  rw [← hYN]
  clear hFU hfu hfu2 hY
  have HMK := hidd (fun W => make101 fr Y (Nat.le_trans hY17 (by decide)) W)
  have S1 := hidd (size_l28 (N : Int) (K : Int) hb)
  obtain ⟨C, hC⟩ : ∃ C, C = (scl (N : Int) (K : Int) bs a K cap).toArray := ⟨_, rfl⟩
  have hC0 := hidd (show C[0]? = some (.int .i64 (N : Int)) by rw [hC]; exact scl_fst 0 _ rfl)
  have hC1 := hidd (show C[138]? = some (.slice a K cap) by rw [hC]; exact scl_snd hb)
  have HR := hidd (fun W (h : Blk W w.heap.size C 56) => h.range 0 (ccells (N : Int) (K : Int) bs) (fun j v hj => by rw [hC]; exact scl_fst j v hj))
  rw [← hC]
  rcases hs with hzz | ⟨bl, off, ha, hcell⟩
  · rw [hzz] at hl; simp at hl; omega
  · subst ha
    have hcz := hcell c (by omega)
    rw [← hz] at hcz
    have HG := hidd (And.intro (Blk.new w C 56 _ rfl) ((Below.refl w.heap.size w).alloc (Nat.le_refl _) (.cells C 56)))
    have HSS := hidd (fun W (h1 : Blk W w.heap.size C 56) (h2 : Below w.heap.size w W) => (⟨h1, h1.cell hC1.out, cell_below hcz h2⟩ : Blk W w.heap.size C 56 ∧ W.cell? ⟨w.heap.size, 138, none⟩ = some (.slice (some ⟨bl, off, none⟩) K cap) ∧ W.cell? ⟨bl, off + c, none⟩ = some (.int .i64 z)))
    have HRG := hidd (fun W (h : Blk W w.heap.size C 56 ∧ W.cell? ⟨w.heap.size, 138, none⟩ = some (.slice (some ⟨bl, off, none⟩) K cap) ∧ W.cell? ⟨bl, off + c, none⟩ = some (.int .i64 z)) => HR.out W h.1)
    clear hC hcell hcz hL hfr hz hsz h2 hl hYN hb
    go_enter Tryd.func85, Tryd.ntmps85
    obtain ⟨W0, hW0⟩ : ∃ W0, W0 = w.alloc (.cells C 56) := ⟨_, rfl⟩
    rw [← hW0] at HG
    go_wp2_with fail
    rw [← hW0]
    clear hW0
    refine wp_scope_straight ?_
    go_wp2_with fail
    refine wp_region_held_drew (S := (fun W => Blk W w.heap.size C 56 ∧ W.cell? ⟨w.heap.size, 138, none⟩ = some (.slice (some ⟨bl, off, none⟩) K cap) ∧ W.cell? ⟨bl, off + c, none⟩ = some (.int .i64 z))) (by kernel_rfl) ?_ (fun hHeld => ?_)
    · exact HSS.out _ HG.out.1.drew (below_drewN HG.out.2 1)
    refine wpAnyH_take (i := 0) (oi := _) (v := ?_) rfl (by kernel_rfl) (by kernel_rfl) (by kernel_rfl) (fun _ _ _ h => h) (Or.inl ⟨by rfl, ?_⟩) (by assumption) ?_
    rotate_left
    · intro wX hSw; (try dsimp only at hSw); go_simp; first | done | with_reducible rfl
    simp only [List.getElem_toArray, List.getElem_cons_succ, List.getElem_cons_zero, Act.put, List.setIfInBounds_toArray, List.set_cons_zero, List.set_cons_succ]
    refine wpAnyH_take (i := 1) (oi := _) (v := _) rfl (by kernel_rfl) (by kernel_rfl) (by kernel_rfl) (fun _ _ _ h => h) (yieldsIf_load_mid (by rfl) _ _ rfl _ _ rfl _ _ (HRG.out) Tryd.underlying28 rfl (S1.out)) (by assumption) ?_
    simp only [List.getElem_toArray, List.getElem_cons_succ, List.getElem_cons_zero, Act.put, List.setIfInBounds_toArray, List.set_cons_zero, List.set_cons_succ]
    refine wpAnyH_take (i := 2) (oi := _) (v := ?_) rfl (by kernel_rfl) (by kernel_rfl) (by kernel_rfl) (fun _ _ _ h => h) (Or.inl ⟨by rfl, ?_⟩) (by assumption) ?_
    rotate_left
    · intro wX hSw; (try dsimp only at hSw); go_simp; first | done | with_reducible rfl
    simp only [List.getElem_toArray, List.getElem_cons_succ, List.getElem_cons_zero, Act.put, List.setIfInBounds_toArray, List.set_cons_zero, List.set_cons_succ]
    refine wpAnyH_take (i := 3) (oi := _) (v := ?_) rfl (by kernel_rfl) (by kernel_rfl) (by kernel_rfl) (fun _ _ _ h => h) (Or.inl ⟨by rfl, ?_⟩) (by assumption) ?_
    rotate_left
    · intro wX hSw; (try dsimp only at hSw); go_simp; first | done | with_reducible rfl
    simp only [List.getElem_toArray, List.getElem_cons_succ, List.getElem_cons_zero, Act.put, List.setIfInBounds_toArray, List.set_cons_zero, List.set_cons_succ]
    refine wpAnyH_take (i := 4) (oi := _) (v := ?_) rfl (by kernel_rfl) (by kernel_rfl) (by kernel_rfl) (fun _ _ _ h => h) (Or.inl ⟨by rfl, ?_⟩) (by assumption) ?_
    rotate_left
    · intro wX hSw; (try dsimp only at hSw); go_simp; first | done | with_reducible rfl
    simp only [List.getElem_toArray, List.getElem_cons_succ, List.getElem_cons_zero, Act.put, List.setIfInBounds_toArray, List.set_cons_zero, List.set_cons_succ]
    refine wpAnyH_take (i := 5) (oi := _) (v := ?_) rfl (by kernel_rfl) (by kernel_rfl) (by kernel_rfl) (fun _ _ _ h => h) (Or.inl ⟨by rfl, ?_⟩) (by assumption) ?_
    rotate_left
    · intro wX hSw; (try dsimp only at hSw); go_simp; first | done | with_reducible rfl
    simp only [List.getElem_toArray, List.getElem_cons_succ, List.getElem_cons_zero, Act.put, List.setIfInBounds_toArray, List.set_cons_zero, List.set_cons_succ]
    refine wpAnyH_take (i := 6) (oi := _) (v := ?_) rfl (by kernel_rfl) (by kernel_rfl) (by kernel_rfl) (fun _ _ _ h => h) (Or.inl ⟨by rfl, ?_⟩) (by assumption) ?_
    rotate_left
    · intro wX hSw; (try dsimp only at hSw); go_simp; first | done | with_reducible rfl
    simp only [List.getElem_toArray, List.getElem_cons_succ, List.getElem_cons_zero, Act.put, List.setIfInBounds_toArray, List.set_cons_zero, List.set_cons_succ]
    refine wpAnyH_take (i := 7) (oi := _) (v := ?_) rfl (by kernel_rfl) (by kernel_rfl) (by kernel_rfl) (fun _ _ _ h => h) (Or.inl ⟨by rfl, ?_⟩) (by assumption) ?_
    rotate_left
    · intro wX hSw; (try dsimp only at hSw); go_simp; first | done | with_reducible rfl
    simp only [List.getElem_toArray, List.getElem_cons_succ, List.getElem_cons_zero, Act.put, List.setIfInBounds_toArray, List.set_cons_zero, List.set_cons_succ]
    refine wpAnyH_take (i := 8) (oi := _) (v := ?_) rfl (by kernel_rfl) (by kernel_rfl) (by kernel_rfl) (fun _ _ _ h => h) (Or.inl ⟨by rfl, ?_⟩) (by assumption) ?_
    rotate_left
    · intro wX hSw; (try dsimp only at hSw); go_simp; first | done | with_reducible rfl
    simp only [List.getElem_toArray, List.getElem_cons_succ, List.getElem_cons_zero, Act.put, List.setIfInBounds_toArray, List.set_cons_zero, List.set_cons_succ]
    refine wpAnyH_ready (rs := [9]) (by kernel_rfl) (by simp) (AllReadyH.cons (o := _) rfl (fun KQ hKQ => ?_) AllReadyH.nil)
    go_simp
    refine (HCO.out _).mono ?_
    rintro e W1 ⟨aL, cL, rfl, hSU, hbX⟩
    have hbD : Below W0.heap.size W0 W1 := (Below.refl W0.heap.size W0).drew.trans hbX
    have K1 := hidd (And.intro (HG.out.1.below hbD HG.out.1.lt) (And.intro (HG.out.2.trans (hbD.mono HG.out.2.size)) hSU))
    clear hSU hbX hbD
    go_wp2_with fail
    refine hKQ.out _ _ ?_ (fun hNext => ?_)
    · exact HSS.out _ K1.out.1 K1.out.2.1
    clear hKQ KQ hHeld
    have hHeld := hNext
    clear hNext
    refine wpAnyH_ready (rs := [10]) (by kernel_rfl) (by simp) (AllReadyH.cons (o := _) rfl (fun KQ hKQ => ?_) AllReadyH.nil)
    go_simp
    refine hKQ.out _ _ ?_ (fun hNext => ?_)
    · exact hHeld
    clear hKQ KQ hHeld
    have hHeld := hNext
    clear hNext
    refine wpAnyH_done (by kernel_rfl) ?_ _
    clear hHeld
    have c0 := K1.out.1.cell hC0.out
    have hmk := HMK.out
    have K2 := hidd (show RelFs fr W1 Y 0 (W1.alloc (.cells (bcl fr Y 0).toArray 4)) from ⟨Blk.new _ _ _ _ rfl, (Below.refl _ _).alloc (Nat.le_refl _) _⟩)
    have HSU := hidd (K1.out.2.2)
    have HW1 := hidd (show w.heap.size ≤ W1.heap.size from K1.out.2.1.size)
    go_wp2_with fail
    refine wp_label ?_
    clear hsh hsh2 hu hmn hwz hmk c0 hFU17
    go_wp2_with fail
    go_loopw [27] (fun e wr => ∃ j : Nat, j ≤ Y ∧ e = .int .i64 (j : Int) ∧ Hid (RelFs fr W1 Y j wr)) (fun e _ => Y - (intOf e).toNat)
    case atStart => exact ⟨0, Nat.zero_le _, rfl, K2.out⟩
    case round =>
      obtain ⟨j, hj, rfl, HK⟩ := hrel
      by_cases hlt : j < Y
      · have hltI : decide ((j : Int) < (Y : Int)) = true := by simp; omega
        have hw32 : IntKind.u32.wrap (j : Int) = (j : Int) := u32_in (by omega) (by omega)
        obtain ⟨wo, rfl⟩ : ∃ wo, wo = wr := ⟨_, rfl⟩
        go_wp2_with fail
        go_loopw [32] (fun e wr => ∃ i : Nat, i ≤ L.length ∧ e = .int .i64 (i : Int) ∧ Hid ((∀ i' s, i' < i → L[i']? = some s → adn (bitS s) j ≠ 0) ∧ wo = wr)) (fun e _ => L.length - (intOf e).toNat)
        case atStart => exact ⟨0, Nat.zero_le _, rfl, fun i' s h => by omega, rfl⟩
        case round =>
          obtain ⟨i, hi, rfl, HI, hww⟩ := hrel
          obtain rfl : wo = wr := hww
          have HI' := hidd HI
          clear HI
          by_cases hil : i < L.length
          · have hiI : decide ((i : Int) < (L.length : Int)) = true := by simp; omega
            have hget : L[i]? = some L[i] := List.getElem?_eq_getElem hil
            have hmem : L[i] ∈ L := List.getElem_mem hil
            obtain ⟨s, hse⟩ : ∃ s, s = L[i] := ⟨_, rfl⟩
            rw [← hse] at hget hmem
            have hs17 := HSH.out s hmem
            have hXl : bitS s < 2 ^ 17 := bitS_lt s hs17
            have hand := u32_andnot_nat (bitS s) j (by omega) (by omega)
            obtain ⟨X, hX⟩ : ∃ X, X = bitS s := ⟨_, rfl⟩
            obtain ⟨A, hA⟩ : ∃ A, A = adn (bitS s) j := ⟨_, rfl⟩
            rw [← hA, ← hX] at hand
            rcases HSU.out with hz0 | ⟨g, hg, hgl, hcell⟩
            · rw [hz0] at hil; simp at hil
            · subst hg
              have ce := hcell i _ hget
              rw [← HK.out.2.cell (p := ⟨g, i, none⟩) hgl, ← hX] at ce
              by_cases hA0 : A = 0
              · have hAI : ((A : Int) == 0) = true := by rw [hA0]; rfl
                have hfj : fr j = false := HNO.out j s hmem (by rw [← hA]; exact hA0)
                have K3 := hidd (show RelFs fr W1 Y (j + 1) wo from ⟨by rw [bcl_skip hfj]; exact HK.out.1, HK.out.2⟩)
                clear hcell hfj hA0 hX hse hmem hget
                go_wp2_with fail
                go_roundw
                case rel => exact ⟨j + 1, by omega, by go_num, K3.out⟩
                case measure => simp [intOf]; omega
              · have hAI : ((A : Int) == 0) = false := by rw [beq_eq_false_iff_ne]; omega
                have HST := hidd (show ∀ i' s, i' < i + 1 → L[i']? = some s → adn (bitS s) j ≠ 0 from fun i' s' hi' hg' => by
                  by_cases e : i' = i
                  · subst e
                    rw [hget] at hg'
                    cases hg'
                    rw [← hA]; exact hA0
                  · exact HI'.out i' s' (by omega) hg')
                clear hcell hA0 hX hse hmem hget
                go_wp2_with fail
                go_roundw
                case rel => exact ⟨i + 1, by omega, by go_num, HST.out, trivial⟩
                case measure => simp [intOf]; omega
          · have hiI : decide ((i : Int) < (L.length : Int)) = false := by simp; omega
            have hie : i = L.length := by omega
            subst hie
            have hfj : fr j = true := HYE.out j (fun s hs => by
              obtain ⟨i', hi', he⟩ := List.getElem_of_mem hs
              exact HI'.out i' s hi' (by rw [List.getElem?_eq_getElem hi', he]))
            have h4 := HK.out.1.fro j
            have h5 := HK.out.1.cell (bcl_get fr hlt)
            have h6 := HK.out.1.same j (.bool true)
            rw [bcl_set hfj] at h6
            have hlg := HW1.out
            have K3 := hidd (show RelFs fr W1 Y (j + 1) (wo.setCell ⟨W1.heap.size, j, none⟩ (.bool true)) from ⟨h6, HK.out.2.setCell (Nat.le_refl _) _⟩)
            clear h6 hfj
            go_wp2_with fail
            go_roundw
            case rel => exact ⟨j + 1, by omega, by go_num, K3.out⟩
            case measure => simp [intOf]; omega
      · have hltI : decide ((j : Int) < (Y : Int)) = false := by simp; omega
        have hje : j = Y := by omega
        subst hje
        go_wp2_with fail
        rw [Exit.noGoto_ret]
        go_ret
        exact ⟨W1.heap.size, rfl, HW1.out, HK.out.1, K1.out.2.1.trans (HK.out.2.mono HW1.out)⟩
end Go.Proofs.YtckffliiidgilaaDoor
