/- Colourings compared. -/
import Derived.Test.YtckffliiidgilaaDoorGc
import Derived.Laws.StructEq
namespace Go.Proofs.YtckffliiidgilaaDoor
set_option linter.unusedVariables false
set_option linter.unusedSimpArgs false
open Go Go.RowKit
theorem all_eq_nat : ∀ (xs ys : List Nat), xs.length = ys.length → ((List.range xs.length).all fun i => xs.getD i 0 == ys.getD i 0) = (xs == ys)
  | [], [], _ => rfl
  | x :: xs, y :: ys, h => by
    have ih := all_eq_nat xs ys (by simpa using h)
    rw [List.length_cons, List.range_succ_eq_map, List.all_cons, List.all_map]
    simp only [List.getD_cons_zero, Function.comp_def, List.getD_cons_succ, ih]
    simp [List.cons_beq_cons]
  | [], _ :: _, h => by simp at h
  | _ :: _, [], h => by simp at h
theorem int_beq (x y : Nat) : ((x : Int) == (y : Int)) = (x == y) := by
  rw [Bool.eq_iff_iff, beq_iff_eq, beq_iff_eq]; omega
theorem size5 : ∀ w, (sizeOf 5).run Tryd.prog w = .ok 1 w := fun w => by kernel_rfl
theorem eqBytes23 (d : Nat) (w : World) (bs cs : List Nat) (hb : bs.length = 136) (hc : cs.length = 136) :
    (Op.equalIn (d + 2) 22 (.agg (bcells bs).toArray) (.agg (bcells cs).toArray)).run Tryd.prog w = .ok (bs == cs) w := by
  rw [← all_eq_nat bs cs (hb.trans hc.symm), hb, List.range_eq_range', Op.equalIn]
  simp only [Sem.run_bind, run_underlying Tryd.underlying22, Result.andThen_ok, size5, Std.Legacy.Range.forIn_eq_forIn_range', Std.Legacy.Range.size, Nat.sub_zero, Nat.add_sub_cancel, Nat.div_one]
  have hl : ∀ i ∈ List.range' 0 136 1, i < 136 := fun i hi => by simpa using (List.mem_range'_1.1 hi).2
  generalize List.range' 0 136 1 = l at hl ⊢
  induction l with
  | nil => simp
  | cons i l ih =>
    have hi : i < 136 := hl i (by simp)
    have px : (part 5 (bcells bs).toArray (i * 1)).run Tryd.prog w = .ok (.int .u8 (bs.getD i 0 : Nat)) w := by
      simp [part, isAgg, run_underlying Tryd.underlying5, bcells, List.getD, List.getElem?_eq_getElem (show i < bs.length by omega)]
    have py : (part 5 (bcells cs).toArray (i * 1)).run Tryd.prog w = .ok (.int .u8 (cs.getD i 0 : Nat)) w := by
      simp [part, isAgg, run_underlying Tryd.underlying5, bcells, List.getD, List.getElem?_eq_getElem (show i < cs.length by omega)]
    have pe : (Op.equalIn (d + 1) 5 (.int .u8 (bs.getD i 0 : Nat)) (.int .u8 (cs.getD i 0 : Nat))).run Tryd.prog w = .ok (bs.getD i 0 == cs.getD i 0) w := by
      have h := run_equalIn_int (P := Tryd.prog) w d 5 .u8 .u8 ((bs.getD i 0 : Nat) : Int) ((cs.getD i 0 : Nat) : Int) Tryd.underlying5
      rw [int_beq] at h
      exact h
    simp only [List.forIn_cons, Sem.run_bind, px, py, pe, Result.andThen_ok, List.all_cons]
    cases hq : (bs.getD i 0 == cs.getD i 0)
    · simp
    · simp only [Bool.not_true, Bool.false_eq_true, if_false, Sem.run_pure, Result.andThen_ok, Bool.true_and]
      exact ih fun j hj => hl j (by simp [hj])
theorem fields25 : (Tryd.prog.fieldsOf 28).toList.map (fun f => (f.name == "_", f.type, f.offset)) = [(false, 2, 0), (false, 2, 1), (false, 22, 2)] := by kernel_rfl
theorem held25 : Tryd.prog.stoodInHeld 28 = false := by kernel_rfl
theorem guard25 : Tryd.prog.eqGuardType Tryd.prog.depth 28 = false := by kernel_rfl
theorem struct25 : Tryd.prog.underlying 28 = some (.struct (Tryd.prog.fieldsOf 28)) := by kernel_rfl
theorem eqF (d : Nat) (w : World) (xs ys : Array Value) (f : Field) (fs : List Field) (a b : Value) (r : Bool) (hn : (f.name == "_") = false) (ha : (part f.type xs f.offset).run Tryd.prog w = .ok a w) (hb : (part f.type ys f.offset).run Tryd.prog w = .ok b w) (he : (Op.equalIn d f.type a b).run Tryd.prog w = .ok r w) :
    (Op.eqFields d xs ys (f :: fs)).run Tryd.prog w = if r = true then (Op.eqFields d xs ys fs).run Tryd.prog w else .ok false w := by
  have hm : f.name ≠ "_" := by simpa using hn
  simp only [Op.eqFields, if_pos hm, Sem.run_bind, ha, hb, he, Result.andThen_ok]
  cases r <;> simp
theorem part0 (w : World) (n k : Int) (bs : List Nat) : (part 2 (ccells n k bs).toArray 0).run Tryd.prog w = .ok (.int .i64 n) w := by
  simp [part, isAgg, run_underlying Tryd.underlying2, ccells]
theorem part1 (w : World) (n k : Int) (bs : List Nat) : (part 2 (ccells n k bs).toArray 1).run Tryd.prog w = .ok (.int .i64 k) w := by
  simp [part, isAgg, run_underlying Tryd.underlying2, ccells]
theorem size23 : ∀ w, (sizeOf 22).run Tryd.prog w = .ok 136 w := fun w => by kernel_rfl
theorem part2 (w : World) (n k : Int) (bs : List Nat) (h : bs.length = 136) : (part 22 (ccells n k bs).toArray 2).run Tryd.prog w = .ok (.agg (bcells bs).toArray) w := by
  have he : (ccells n k bs).toArray.extract 2 (2 + 136) = (bcells bs).toArray := by
    apply Array.ext'
    simp only [ccells, Array.toList_extract, List.extract_eq_take_drop]
    exact List.take_of_length_le (by simp [bcells, h])
  simp only [part, isAgg, Sem.run_bind, run_underlying Tryd.underlying22, Result.andThen_ok, Sem.run_pure, if_true, size23, he]
theorem eqCol25 (w : World) (n k : Int) (bs cs : List Nat) (hb : Bys bs) (hc : Bys cs) (d : Nat) :
    (Op.equalIn (d + 4) 28 (.agg (ccells n k bs).toArray) (.agg (ccells n k cs).toArray)).run Tryd.prog w = .ok (bs == cs) w := by
  rw [run_equalIn_struct w (d + 3) 28 _ _ struct25 held25]
  have hf := fields25
  obtain ⟨fs, hfs⟩ : ∃ fs, fs = (Tryd.prog.fieldsOf 28).toList := ⟨_, rfl⟩
  rw [← hfs] at hf ⊢
  clear hfs
  obtain ⟨f0, f1, f2, rfl⟩ : ∃ f0 f1 f2, fs = [f0, f1, f2] := by
    have hl : fs.length = 3 := by have := congrArg List.length hf; simpa using this
    match fs, hl with
    | [a, b, c], _ => exact ⟨a, b, c, rfl⟩
  simp only [List.map_cons, List.map_nil, List.cons.injEq, Prod.mk.injEq, and_true] at hf
  obtain ⟨⟨n0, t0, o0⟩, ⟨n1, t1, o1⟩, ⟨n2, t2, o2⟩⟩ := hf
  rw [eqF (d + 3) w _ _ f0 _ (.int .i64 n) (.int .i64 n) true n0 (by rw [t0, o0]; exact part0 w n k bs) (by rw [t0, o0]; exact part0 w n k cs) (by rw [t0, run_equalIn_int w (d + 2) 2 .i64 .i64 _ _ Tryd.underlying2, beq_self_eq_true]), if_pos rfl]
  rw [eqF (d + 3) w _ _ f1 _ (.int .i64 k) (.int .i64 k) true n1 (by rw [t1, o1]; exact part1 w n k bs) (by rw [t1, o1]; exact part1 w n k cs) (by rw [t1, run_equalIn_int w (d + 2) 2 .i64 .i64 _ _ Tryd.underlying2, beq_self_eq_true]), if_pos rfl]
  rw [eqF (d + 3) w _ _ f2 _ (.agg (bcells bs).toArray) (.agg (bcells cs).toArray) (bs == cs) n2 (by rw [t2, o2]; exact part2 w n k bs hb.len) (by rw [t2, o2]; exact part2 w n k cs hc.len) (by rw [t2]; exact eqBytes23 (d + 1) w bs cs hb.len hc.len)]
  cases (bs == cs)
  · rfl
  · rfl
end Go.Proofs.YtckffliiidgilaaDoor
