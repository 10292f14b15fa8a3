/- Results that hold a colouring. -/
import Derived.Test.YtikcmgmgdbbcfaaEq
namespace Go.Proofs.Ytikcmgmgdbbcfaa
set_option linter.unusedVariables false
set_option linter.unusedSimpArgs false
open Go Go.RowKit
theorem built26 : Try.prog.built 25 [] = some (ccells 0 0 zbl).toArray := by kernel_rfl
theorem wpList_zero26 {ops : Array Oper} {rest : List Oper} {o : Oper} {a : Act} {w : World} {Q : Exit → Act → World → Prop} (hg : o.guard = none) (ho : o.op = .build 25 #[])
    (h : wpList Try.prog ops Q rest (a.put o.dst (.agg (ccells 0 0 zbl).toArray)) w) : wpList Try.prog ops Q (o :: rest) a w := by
  obtain ⟨Z, hZ⟩ : ∃ Z, Z = (ccells 0 0 zbl).toArray := ⟨_, rfl⟩
  have hb : Try.prog.built 25 [] = some Z := by rw [hZ]; exact built26
  rw [← hZ] at h
  clear hZ
  have e : ((#[] : Array (Nat × Operand)).map fun (i, x) => (i, a.eval x)).toList = [] := by simp
  refine wpList_build hg 25 #[] ho ?_ ?_
  · rw [e, hb]; rfl
  · rw [e, hb]; exact h
theorem results_row_tmp {P : Program} {fn : Func} {p u : Tmp} {ty : TypeId} (h : fn.results = #[.cell p ty, .tmp u]) (tmps : Array Value) (w : World) (g : Nat) (t : TypeId) (cs : Array Value) (d : TypeDesc)
    (hp : tmps.getD p undef = .pointer (some ⟨g, 0, none⟩)) (hg : Blk w g cs t)
    (hu : P.underlying ty = some d) (hd : (match d with | .struct _ | .array _ _ => true | _ => false) = true) (hi : (P.info? ty).map (·.size) = some cs.size) :
    (results fn tmps).run P w = .ok (.tuple #[.agg cs, tmps.getD u undef]) w := by
  rw [results_cell_tmp h, hp]
  simp [asAddr, Result.andThen, run_loadVar_row w g t ty cs (0, 0) d hg hu hd hi]
theorem size_z26 : (Try.prog.info? 25).map (·.size) = some (ccells 0 0 zbl).toArray.size := size_c26 0 0 zbl_bys
theorem size_cc (n k m l : Int) {bs cs : List Nat} (hb : Bys bs) (hc : Bys cs) : (ccells n k bs).toArray.size = (ccells m l cs).toArray.size := by simp [ccells_len, hb.len, hc.len]
/-- A number below 256 as a byte. -/
theorem u8_in {c : Int} (h0 : 0 ≤ c) (h1 : c < 256) : IntKind.u8.wrap c = c := by
  simp [IntKind.wrap, IntKind.bits, IntKind.signed]; omega
/-- The load of a whole row behind a guard that lets it by. -/
theorem wpList_load_if {P : Program} {ops : Array Oper} {rest : List Oper} {o : Oper} {a : Act} {w : World} {Q : Exit → Act → World → Prop} (hw : Region.wanted o (yielded ops a.tmps) = true) (ty : TypeId) (x : Operand) (ho : o.op = .load ty x)
    (g : Nat) (hx : a.eval x = .pointer (some ⟨g, 0, none⟩)) (t : TypeId) (cs : Array Value) (d : TypeDesc) (hg : Blk w g cs t)
    (hu : P.underlying ty = some d) (hd : (match d with | .struct _ | .array _ _ => true | _ => false) = true) (hi : (P.info? ty).map (·.size) = some cs.size)
    (h : wpList P ops Q rest (a.put o.dst (.agg cs)) w) : wpList P ops Q (o :: rest) a w := by
  simp only [wpList, hw, if_true]
  exact .inl (wp_load_row ty x ho g hx t cs (0, 0) d hg hu hd hi h)
end Go.Proofs.Ytikcmgmgdbbcfaa
