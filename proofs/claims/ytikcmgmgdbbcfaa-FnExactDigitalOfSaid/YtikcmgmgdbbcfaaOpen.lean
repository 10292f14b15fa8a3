import Derived.Test.YtikcmgmgdbbcfaaTypes
import Derived.ProofKit
import Derived.OpenShut
import Derived.Carry
namespace Go.Proofs.Ytikcmgmgdbbcfaa
open Go Go.RowKit Go.ChangeShapes Go.WideShapes
section
variable {H : Type} {enc : TypeId × Value → H} {w : World} {base : Nat} {spare : Nat → Bool} {held : Bool}
theorem cells24 : Try.prog.cellsOf 32 = 138 := by kernel_rfl
theorem cells22 : Try.prog.cellsOf 23 = 136 := by kernel_rfl
theorem cells5 : Try.prog.cellsOf 5 = 1 := by kernel_rfl
theorem cells2 : Try.prog.cellsOf 2 = 1 := by kernel_rfl
def byteAt : Value → Nat | .int _ n => n.toNat | _ => 0
theorem u8_bd {n : Int} (h : (Lit.int .u8 n).wf = true) : 0 ≤ n ∧ n < 256 := by
  have := bounds_u8 h; omega
/-- The cells of a row of bytes that can be read. -/
theorem open_bytes {fuel : Nat} {cs : List Value} {x : DataW H × List MemPlace} (h : DataW.trod enc Try.prog w base spare held fuel 23 cs = some x) :
    ∃ bs, cs = bcells bs ∧ Bys bs := by
  obtain ⟨xs, m, rfl, rfl, hl, hxl, hel⟩ := DataW.trod_array Try.underlying23 h
  rw [cells22] at hl
  rw [cells5] at hel
  have each : ∀ i, i < 136 → ∃ n : Int, cs[i]? = some (.int .u8 n) ∧ 0 ≤ n ∧ n < 256 := by
    intro i hi
    have h1 := hel i hi
    have hx : i < xs.length := by omega
    rw [List.getElem?_eq_getElem hx] at h1
    obtain ⟨n, e1, e2, e3⟩ := DataW.trod_int Try.underlying5 h1
    refine ⟨n, ?_, u8_bd e3⟩
    have : ((cs.drop (i * 1)).take 1)[0]? = some (.int .u8 n) := by rw [e1]; rfl
    simpa using this
  refine ⟨cs.map byteAt, ?_, ⟨by simpa using hl, ?_⟩⟩
  · apply List.ext_getElem?
    intro i
    by_cases hi : i < 136
    · obtain ⟨n, e1, e3, e4⟩ := each i hi
      simp only [bcells, List.getElem?_map, e1, Option.map_some, byteAt]
      rw [show ((n.toNat : Nat) : Int) = n by omega]
    · rw [List.getElem?_eq_none (by omega), List.getElem?_eq_none (by simp [bcells]; omega)]
  · intro j
    by_cases hi : j < 136
    · obtain ⟨n, e1, e3, e4⟩ := each j hi
      simp only [List.getD, List.getElem?_map, e1, Option.map_some, byteAt, Option.getD_some]; omega
    · simp only [List.getD, List.getElem?_map, List.getElem?_eq_none (show cs.length ≤ j by omega)]; simp
/-- The bounds of a number that fits. -/
theorem i64_bd {n : Int} (h : (Lit.int .i64 n).wf = true) : -9223372036854775808 ≤ n ∧ n ≤ 9223372036854775807 := by
  have := bounds_i64 h; omega
set_option maxRecDepth 100000 in
set_option maxRecDepth 100000 in
/-- A struct of a colouring's make that can be read. -/
theorem open_col {t : TypeId} (ht : Try.prog.underlying t = some (.struct #[{ name := "Points", type := 2, offset := 0, embedded := false, tag := "", pkgPath := "", byteOffset := 0 }, { name := "Colours", type := 2, offset := 1, embedded := false, tag := "", pkgPath := "", byteOffset := 8 }, { name := "Edges", type := 23, offset := 2, embedded := false, tag := "", pkgPath := "", byteOffset := 16 }]))
    (hc : Try.prog.cellsOf t = 138) {v : Value} {d : DataW H} {ps : List MemPlace} {r : Reach} {b : Nat} (hv : Value.okWide Try.prog w r b t v) (h : DataW.Trod enc Try.prog w base spare held t v d ps) :
    ∃ n k bs, v = .agg (ccells n k bs).toArray ∧ Bys bs ∧ (Lit.int .i64 n).wf = true ∧ (Lit.int .i64 k).wf = true := by
  unfold Value.okWide at hv
  rw [ht] at hv
  obtain ⟨cs, rfl, hs, _⟩ := hv
  obtain ⟨fuel, h⟩ := h
  obtain ⟨xs, m, rfl, hx, hl, hxl, hel⟩ := DataW.trod_struct ht h
  have hxl3 : xs.length = 3 := hxl
  have h0 : DataW.trod enc Try.prog w base spare held m 2 ((cs.toList.drop 0).take (Try.prog.cellsOf 2)) = xs[0]? := hel 0 _ rfl
  have h1 : DataW.trod enc Try.prog w base spare held m 2 ((cs.toList.drop 1).take (Try.prog.cellsOf 2)) = xs[1]? := hel 1 _ rfl
  have h2 : DataW.trod enc Try.prog w base spare held m 23 ((cs.toList.drop 2).take (Try.prog.cellsOf 23)) = xs[2]? := hel 2 _ rfl
  rw [cells2] at h0 h1
  rw [cells22] at h2
  rw [List.getElem?_eq_getElem (by omega)] at h0 h1 h2
  obtain ⟨n, e0, _, wn⟩ := DataW.trod_int Try.underlying2 h0
  obtain ⟨k, e1, _, wk⟩ := DataW.trod_int Try.underlying2 h1
  obtain ⟨bs, e2, hb⟩ := open_bytes h2
  refine ⟨n, k, bs, ?_, hb, wn, wk⟩
  have hlen : cs.toList.length = 138 := by rw [hc] at hs; simpa using hs
  have hcs : cs.toList = ccells n k bs := by
    generalize cs.toList = l at *
    rcases l with _ | ⟨a, _ | ⟨b, r⟩⟩
    · cases hlen
    · cases hlen
    · have hr : r.length = 136 := by rw [List.length_cons, List.length_cons] at hlen; omega
      simp only [List.drop_zero, List.drop_succ_cons, List.take_succ_cons, List.take_zero, List.cons.injEq, and_true] at e0 e1 e2
      rw [List.take_of_length_le (by omega)] at e2
      rw [e0, e1, e2]; rfl
  rw [← hcs]
end
#print axioms open_col
end Go.Proofs.Ytikcmgmgdbbcfaa
