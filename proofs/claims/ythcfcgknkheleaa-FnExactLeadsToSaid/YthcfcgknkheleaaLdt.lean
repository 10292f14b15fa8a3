/- LeadsTo: colourings of any two makes compared; what both answer. -/
import Derived.Test.YthcfcgknkheleaaGd
import Derived.Test.YthcfcgknkheleaaEqc
namespace Go.Proofs.Ythcfcgknkheleaa
set_option linter.unusedVariables false
set_option linter.unusedSimpArgs false
open Go Go.RowKit
def eqB (n k : Int) (bs : List Nat) (m l : Int) (cs : List Nat) : Bool := n == m && (k == l && bs == cs)
theorem eqColG (w : World) (n k m l : Int) (bs cs : List Nat) (hb : Bys bs) (hc : Bys cs) (d : Nat) :
    (Op.equalIn (d + 4) 28 (.agg (ccells n k bs).toArray) (.agg (ccells m l cs).toArray)).run Try.prog w = .ok (eqB n k bs m l cs) w := by
  rw [run_equalIn_struct w (d + 3) 28 _ _ struct25 held25]
  have hf := fields25
  obtain ⟨fs, hfs⟩ : ∃ fs, fs = (Try.prog.fieldsOf 28).toList := ⟨_, rfl⟩
  rw [← hfs] at hf ⊢
  clear hfs
  obtain ⟨f0, f1, f2, rfl⟩ : ∃ f0 f1 f2, fs = [f0, f1, f2] := by
    have hl : fs.length = 3 := by have := congrArg List.length hf; simpa using this
    match fs, hl with
    | [a, b, c], _ => exact ⟨a, b, c, rfl⟩
  simp only [List.map_cons, List.map_nil, List.cons.injEq, Prod.mk.injEq, and_true] at hf
  obtain ⟨⟨n0, t0, o0⟩, ⟨n1, t1, o1⟩, ⟨n2, t2, o2⟩⟩ := hf
  unfold eqB
  rw [eqF (d + 3) w _ _ f0 _ (.int .i64 n) (.int .i64 m) (n == m) n0 (by rw [t0, o0]; exact part0 w n k bs) (by rw [t0, o0]; exact part0 w m l cs) (by rw [t0]; exact run_equalIn_int w (d + 2) 2 .i64 .i64 _ _ Try.underlying2)]
  cases (n == m) with
  | false => rfl
  | true =>
    rw [if_pos rfl, eqF (d + 3) w _ _ f1 _ (.int .i64 k) (.int .i64 l) (k == l) n1 (by rw [t1, o1]; exact part1 w n k bs) (by rw [t1, o1]; exact part1 w m l cs) (by rw [t1]; exact run_equalIn_int w (d + 2) 2 .i64 .i64 _ _ Try.underlying2)]
    cases (k == l) with
    | false => rfl
    | true =>
      rw [if_pos rfl, eqF (d + 3) w _ _ f2 _ (.agg (bcells bs).toArray) (.agg (bcells cs).toArray) (bs == cs) n2 (by rw [t2, o2]; exact part2 w n k bs hb.len) (by rw [t2, o2]; exact part2 w m l cs hc.len) (by rw [t2]; exact eqBytes23 (d + 1) w bs cs hb.len hc.len)]
      cases (bs == cs)
      · rfl
      · rfl
theorem quietEqlG {C : World → Prop} {o : Oper} {a : Act} {w : World} (x y : Operand) (ho : o.op = .binOp .eql 28 x y 28) (n k m l : Int) (bs cs : List Nat) (hb : Bys bs) (hc : Bys cs)
    (hx : a.eval x = .agg (ccells n k bs).toArray) (hy : a.eval y = .agg (ccells m l cs).toArray) : o.quietAt Try.prog a C w (.bool (eqB n k bs m l cs)) := by
  unfold Oper.quietAt execOp
  simp only [ho, hx, hy, Sem.run_bind, run_eqGuard_agg w .eql 28 x y _ _ guard25, Result.andThen_ok, run_eql_struct, eqColG w n k m l bs cs hb hc 9996]
  exact ⟨rfl, rfl⟩
theorem wpList_eqlG {ops : Array Oper} {rest : List Oper} {o : Oper} {a : Act} {w : World} {Q : Exit → Act → World → Prop} (hgd : o.guard = none) (x y : Operand) (ho : o.op = .binOp .eql 28 x y 28) (n k m l : Int) (bs cs : List Nat) (hb : Bys bs) (hc : Bys cs)
    (hx : a.eval x = .agg (ccells n k bs).toArray) (hy : a.eval y = .agg (ccells m l cs).toArray) (h : wpList Try.prog ops Q rest (a.put o.dst (.bool (eqB n k bs m l cs))) w) : wpList Try.prog ops Q (o :: rest) a w := by
  refine wpList_plain hgd fun K hK => ?_
  unfold Oper.wp execOp
  simp only [ho, hx, hy, Sem.run_bind, run_eqGuard_agg w .eql 28 x y _ _ guard25, Result.andThen_ok, run_eql_struct, eqColG w n k m l bs cs hb hc 9996]
  first
    | exact hK _ _ h
    | (simp [Result.andThen]; exact hK _ _ h)
/-- What LeadsTo answers. -/
def ldC (n k : Int) (bs : List Nat) (m l : Int) (cs : List Nat) (zs : List Int) : Int := if isCol m l cs = true then rnCode n k bs zs else 1
def ldV (n k : Int) (bs : List Nat) (m l : Int) (cs : List Nat) (zs : List Int) : Bool := decide (ldC n k bs m l cs zs = 0) && eqB n k (rnBB n k bs zs) m l cs
end Go.Proofs.Ythcfcgknkheleaa
