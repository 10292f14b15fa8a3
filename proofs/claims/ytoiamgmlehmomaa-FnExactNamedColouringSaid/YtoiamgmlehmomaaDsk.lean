/- Desks: two colourings, one behind the other. -/
import Derived.Test.YtoiamgmlehmomaaGe
import Derived.BigFrame
namespace Go.Proofs.Ytoiamgmlehmomaa
set_option linter.unusedVariables false
set_option linter.unusedSimpArgs false
open Go Go.RowKit Go.ChangeShapes Go.WideShapes
/-- The load of a part behind a guard that lets it by. -/
theorem wpList_load_mid_want {P : Program} {ops : Array Oper} {rest : List Oper} {op : Oper} {a : Act} {w : World} {Q : Exit → Act → World → Prop} (hw : Region.wanted op (yielded ops a.tmps) = true) (ty : TypeId) (x : Operand) (ho : op.op = .load ty x)
    (b o : Nat) (hx : a.eval x = .pointer (some ⟨b, o, none⟩)) (cs : List Value) (d : TypeDesc) (hc : w.rangeAt b o cs)
    (hu : P.underlying ty = some d) (hd : d.isRow = true) (hi : (P.info? ty).map (·.size) = some cs.length)
    (h : wpList P ops Q rest (a.put op.dst (.agg cs.toArray)) w) : wpList P ops Q (op :: rest) a w :=
  Go.BigFrame.wpList_want hw fun _ hK => wp_load_mid ty x ho b o hx cs d hc hu hd hi (hK _ _ h)
/-- The cells of two colourings. -/
def dcl (n k : Int) (bs : List Nat) (m l : Int) (cs : List Nat) : List Value := ccells n k bs ++ ccells m l cs
theorem cc138 {n k : Int} {bs : List Nat} (hb : Bys bs) : (ccells n k bs).length = 138 := by rw [ccells_len, hb.len]
theorem dcl_len {n k m l : Int} {bs cs : List Nat} (hb : Bys bs) (hc : Bys cs) : (dcl n k bs m l cs).length = 276 := by simp [dcl, cc138 hb, cc138 hc]
theorem dcl_fst {n k m l : Int} {bs cs : List Nat} (j : Nat) (v : Value) (h : (ccells n k bs)[j]? = some v) : (dcl n k bs m l cs).toArray[0 + j]? = some v := by
  have hj : j < (ccells n k bs).length := (List.getElem?_eq_some_iff.1 h).1
  simp only [dcl, Nat.zero_add, List.getElem?_toArray]
  rw [List.getElem?_append_left hj]; exact h
theorem dcl_snd {n k m l : Int} {bs cs : List Nat} (hb : Bys bs) (j : Nat) (v : Value) (h : (ccells m l cs)[j]? = some v) : (dcl n k bs m l cs).toArray[138 + j]? = some v := by
  simp only [dcl, List.getElem?_toArray]
  rw [List.getElem?_append_right (by rw [cc138 hb]; omega), cc138 hb, show 138 + j - 138 = j by omega]; exact h
theorem dcl_set1 {n k m l n' k' : Int} {bs cs bs' : List Nat} (hb : Bys bs) (hb' : Bys bs') (hc : Bys cs) : setFrom (dcl n k bs m l cs).toArray 0 (ccells n' k' bs') = (dcl n' k' bs' m l cs).toArray := by
  apply Array.ext_getElem?
  intro j
  rw [setFrom_get _ _ _ _ (by simp [dcl_len hb hc, cc138 hb']), cc138 hb']
  simp only [dcl, List.getElem?_toArray]
  by_cases h : j < 138
  · rw [if_pos (by omega), List.getElem?_append_left (by rw [cc138 hb']; exact h)]; rfl
  · rw [if_neg (by omega), List.getElem?_append_right (by rw [cc138 hb]; omega), List.getElem?_append_right (by rw [cc138 hb']; omega), cc138 hb, cc138 hb']
theorem dcl_set2 {n k m l m' l' : Int} {bs cs cs' : List Nat} (hb : Bys bs) (hc : Bys cs) (hc' : Bys cs') : setFrom (dcl n k bs m l cs).toArray 138 (ccells m' l' cs') = (dcl n k bs m' l' cs').toArray := by
  apply Array.ext_getElem?
  intro j
  rw [setFrom_get _ _ _ _ (by simp [dcl_len hb hc, cc138 hc']), cc138 hc']
  simp only [dcl, List.getElem?_toArray]
  by_cases h : j < 138
  · rw [if_neg (by omega), List.getElem?_append_left (by rw [cc138 hb]; exact h), List.getElem?_append_left (by rw [cc138 hb]; exact h)]
  · rw [List.getElem?_append_right (by rw [cc138 hb]; omega), List.getElem?_append_right (by rw [cc138 hb]; omega), cc138 hb]
    by_cases h2 : j < 138 + 138
    · rw [if_pos (by omega)]
    · rw [if_neg (by omega), List.getElem?_eq_none (by rw [cc138 hc]; omega), List.getElem?_eq_none (by rw [cc138 hc']; omega)]
theorem dcl_one {n k m l : Int} {bs cs : List Nat} : (dcl n k bs m l cs).toArray.all (·.oneCell') = true := by
  have h1 := ccells_one n k bs
  have h2 := ccells_one m l cs
  simp only [Array.all_eq_true_iff_forall_mem, List.mem_toArray] at *
  intro v hv
  rcases List.mem_append.1 hv with h | h
  · exact h1 v h
  · exact h2 v h
theorem info30 : (Try.prog.info? 30).map (fun i => (i.zero, i.size)) = some (some (.agg (dcl 0 0 zbl 0 0 zbl).toArray), 276) := by kernel_rfl
theorem zero30 : ∀ w, (zeroValue 30).run Try.prog w = .ok (.agg (dcl 0 0 zbl 0 0 zbl).toArray) w := (zero_of_info info30).1
theorem size30 : (Try.prog.info? 30).map (·.size) = some 276 := (zero_of_info info30).2
theorem size_d30 {n k m l : Int} {bs cs : List Nat} (hb : Bys bs) (hc : Bys cs) : (Try.prog.info? 30).map (·.size) = some (dcl n k bs m l cs).toArray.size := by rw [size30]; simp [dcl_len hb hc]
theorem info36 : (Try.prog.info? 36).map (fun i => (i.zero, i.size)) = some (some (.agg (dcl 0 0 zbl 0 0 zbl).toArray), 276) := by kernel_rfl
theorem size36 : (Try.prog.info? 36).map (·.size) = some 276 := (zero_of_info info36).2
theorem size_d36 {n k m l : Int} {bs cs : List Nat} (hb : Bys bs) (hc : Bys cs) : (Try.prog.info? 36).map (·.size) = some (dcl n k bs m l cs).toArray.size := by rw [size36]; simp [dcl_len hb hc]
theorem size_l24 (n k : Int) {bs : List Nat} (hb : Bys bs) : (Try.prog.info? 24).map (·.size) = some (ccells n k bs).length := by rw [size26, cc138 hb]
theorem size_l34 (n k : Int) {bs : List Nat} (hb : Bys bs) : (Try.prog.info? 34).map (·.size) = some (ccells n k bs).length := by rw [size24, cc138 hb]
set_option maxRecDepth 100000 in
set_option maxHeartbeats 1000000 in
theorem specIs_any (n k : Int) (bs : List Nat) (m l : Int) (cs : List Nat) (hb : Bys bs) (hc : Bys cs) (w : World) :
    Calls Try.prog 12 #[.agg (dcl n k bs m l cs).toArray] w fun e w' => e = .returned (.bool (isCol n k bs && isCol m l cs)) ∧ Below w.heap.size w w' := by
  have H1 := hidd (dcl_fst (n := n) (k := k) (m := m) (l := l) (bs := bs) (cs := cs))
  have H2 := hidd (dcl_snd (n := n) (k := k) (m := m) (l := l) (cs := cs) hb)
  have S1 := hidd (size_l24 n k hb)
  have S2 := hidd (size_l24 m l hc)
  obtain ⟨C, hC⟩ : ∃ C, C = (dcl n k bs m l cs).toArray := ⟨_, rfl⟩
  rw [← hC] at H1 H2
  rw [← hC]
  clear hC
  go_enter Try.func12, Try.ntmps12
  go_wp2_with (refine wpList_load_mid rfl 24 (.tmp 3) rfl w.heap.size 0 rfl (ccells n k bs) _ ((Blk.new w C 30 _ rfl).range 0 _ H1.out) Try.underlying24 rfl S1.out ?_)
  refine (l01Is_any n k bs hb _).mono ?_
  rintro e w1 ⟨rfl, hb1⟩
  have G := hidd (And.intro ((Blk.new w C 30 _ rfl).below hb1 (by simp)) (((Below.refl w.heap.size w).alloc (Nat.le_refl _) (.cells C 30)).trans (hb1.mono (by simp))))
  clear hb1
  by_cases h1 : isCol n k bs = true
  · have HT := hidd h1
    rw [h1]
    clear h1
    go_wp2_with (refine wpList_load_mid_want rfl 24 (.tmp 7) rfl w.heap.size 138 rfl (ccells m l cs) _ (G.out.1.range 138 _ H2.out) Try.underlying24 rfl S2.out ?_)
    refine (l01Is_any m l cs hc _).mono ?_
    rintro e w2 ⟨rfl, hb2⟩
    have G2 := hidd (G.out.2.trans (hb2.mono G.out.2.size))
    clear hb2
    go_wp2
    go_ret
    exact ⟨by rw [HT.out, Bool.true_and]; rfl, G2.out⟩
  · have h1' : isCol n k bs = false := by simpa using h1
    have HT := hidd h1'
    rw [h1']
    clear h1 h1'
    go_wp2
    go_ret
    exact ⟨by rw [HT.out, Bool.false_and]; rfl, G.out.2⟩
set_option maxRecDepth 100000 in
set_option maxHeartbeats 1000000 in
theorem implIsD (n k : Int) (bs : List Nat) (m l : Int) (cs : List Nat) (hb : Bys bs) (hc : Bys cs) (w : World) :
    Calls Try.prog 14 #[.agg (dcl n k bs m l cs).toArray] w fun e w' => e = .returned (.bool (isCol n k bs && isCol m l cs)) ∧ Below w.heap.size w w' := by
  have H1 := hidd (dcl_fst (n := n) (k := k) (m := m) (l := l) (bs := bs) (cs := cs))
  have H2 := hidd (dcl_snd (n := n) (k := k) (m := m) (l := l) (cs := cs) hb)
  have S1 := hidd (size_l24 n k hb)
  have S2 := hidd (size_l24 m l hc)
  obtain ⟨C, hC⟩ : ∃ C, C = (dcl n k bs m l cs).toArray := ⟨_, rfl⟩
  rw [← hC] at H1 H2
  rw [← hC]
  clear hC
  go_enter Try.func14, Try.ntmps14
  go_wp2_with (refine wpList_load_mid rfl 24 (.tmp 3) rfl w.heap.size 0 rfl (ccells n k bs) _ ((Blk.new w C 30 _ rfl).range 0 _ H1.out) Try.underlying24 rfl S1.out ?_)
  refine (implIs_any n k bs hb _).mono ?_
  rintro e w1 ⟨rfl, hb1⟩
  have G := hidd (And.intro ((Blk.new w C 30 _ rfl).below hb1 (by simp)) (((Below.refl w.heap.size w).alloc (Nat.le_refl _) (.cells C 30)).trans (hb1.mono (by simp))))
  clear hb1
  by_cases h1 : isCol n k bs = true
  · have HT := hidd h1
    rw [h1]
    clear h1
    go_wp2_with (refine wpList_load_mid_want rfl 24 (.tmp 7) rfl w.heap.size 138 rfl (ccells m l cs) _ (G.out.1.range 138 _ H2.out) Try.underlying24 rfl S2.out ?_)
    refine (implIs_any m l cs hc _).mono ?_
    rintro e w2 ⟨rfl, hb2⟩
    have G2 := hidd (G.out.2.trans (hb2.mono G.out.2.size))
    clear hb2
    go_wp2
    go_ret
    exact ⟨by rw [HT.out, Bool.true_and]; rfl, G2.out⟩
  · have h1' : isCol n k bs = false := by simpa using h1
    have HT := hidd h1'
    rw [h1']
    clear h1 h1'
    go_wp2
    go_ret
    exact ⟨by rw [HT.out, Bool.false_and]; rfl, G.out.2⟩
end Go.Proofs.Ytoiamgmlehmomaa
