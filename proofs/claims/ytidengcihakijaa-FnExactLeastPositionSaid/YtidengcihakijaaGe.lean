/- My texts Law, Laws, Keep, in one. -/
import Derived.Test.YtidengcihakijaaRows
import Derived.Test.YtidengcihakijaaGa
import Derived.ChangeOld
/- What every law's proof wants of the program as a whole. -/
namespace Go.Proofs.Ytidengcihakijaa
open Go Go.RowKit Go.ChangeShapes Go.WideShapes Go.ChangeAt
theorem own : ownKnob Try.prog.godebug = none := by kernel_rfl
theorem laidOut : laidOutB Try.prog = true := by kernel_rfl
theorem read24 : Try.prog.readableRec 31 = true := by kernel_rfl
theorem read2 : Try.prog.readableRec 2 = true := by kernel_rfl
theorem read29 : Try.prog.readableRec 22 = true := by kernel_rfl
theorem row24 : 31 < Try.prog.types.size := of_decide_eq_true (by kernel_rfl)
theorem row2 : 2 < Try.prog.types.size := of_decide_eq_true (by kernel_rfl)
theorem row29 : 22 < Try.prog.types.size := of_decide_eq_true (by kernel_rfl)
set_option maxRecDepth 100000 in
/-- A number that came in. -/
theorem open_num {H : Type} {enc : TypeId × Value → H} {w : World} {base : Nat} {spare : Nat → Bool} {held : Bool} {v : Value} {d : DataW H} {ps : List MemPlace} {r : Reach} {b : Nat}
    (hv : Value.okWide Try.prog w r b 2 v) (h : DataW.Trod enc Try.prog w base spare held 2 v d ps) : ∃ n, v = .int .i64 n ∧ -9223372036854775808 ≤ n ∧ n ≤ 9223372036854775807 := by
  obtain ⟨n, rfl, _, _, wn⟩ := open_int Try.underlying2 hv h
  exact ⟨n, rfl, i64_bd wn⟩
theorem lt_of_trod {H : Type} {enc : TypeId × Value → H} {w : World} {spare : Nat → Bool} {held : Bool} {t : TypeId} {v : Value} {d : DataW H} {ps : List MemPlace}
    (h : DataW.Trod enc Try.prog w 0 spare held t v d ps) : ∀ x ∈ ps, x.block < w.heap.size := by
  obtain ⟨m, hm⟩ := h; exact DataW.trod_lt m _ _ _ hm
end Go.Proofs.Ytidengcihakijaa
/- Lists that came in. -/
namespace Go.Proofs.Ytidengcihakijaa
set_option linter.unusedVariables false
set_option linter.unusedSimpArgs false
open Go Go.RowKit Go.ChangeShapes Go.WideShapes Go.ChangeAt
set_option maxRecDepth 100000 in
theorem open_list {H : Type} {enc : TypeId × Value → H} {w : World} {base : Nat} {held : Bool} {v : Value} {d : DataW H} {ps : List MemPlace} {r : Reach} {b : Nat}
    (hv : Value.okWide Try.prog w r b 22 v) (h : DataW.Trod enc Try.prog w base (fun _ => true) held 22 v d ps) :
    ∃ a zs cap, v = .slice a (zs : List Int).length cap ∧ SlI w a zs ∧ zs.length ≤ 9223372036854775807 ∧ ∀ j, j < zs.length → -9223372036854775808 ≤ zs.getD j 0 ∧ zs.getD j 0 ≤ 9223372036854775807 := by
  obtain ⟨a, len, cap, rfl⟩ := okWide_slice Try.underlying22 hv
  obtain ⟨fuel, hf⟩ := h
  rcases open_ints Try.underlying22 Try.underlying2 cells2 hf with ⟨hcs, _⟩ | ⟨x, l, c, zs, hcs, _, hl, hm, hz, _, hcell, hwz⟩
  · simp [Value.cells] at hcs
    obtain ⟨rfl, rfl, rfl⟩ := hcs
    exact ⟨none, [], 0, rfl, .inl rfl, by simp, fun j hj => by simp at hj⟩
  · simp [Value.cells] at hcs
    obtain ⟨rfl, rfl, rfl⟩ := hcs
    have hzl : zs.length = cap := by simpa using hz
    have htl : (zs.take len).length = len := by simp; omega
    unfold maxLen at hm
    refine ⟨some x, zs.take len, cap, by rw [htl], ?_, by omega, fun j hj => ?_⟩
    · by_cases h0 : len = 0
      · left; simp [h0]
      · obtain ⟨bl, off, spot⟩ := x
        have hc := hcell 0 (by omega)
        have hspot : spot = none := by simpa [Addr.add] using World.cell?_spot hc
        subst hspot
        refine .inr ⟨bl, off, rfl, fun j hj => ?_⟩
        rw [htl] at hj
        have hcj := hcell j (by omega)
        rw [Addr.add_mid] at hcj
        rw [hcj]
        simp [List.getD, List.getElem?_take, hj]
    · rw [htl] at hj
      have hj2 : j < zs.length := by omega
      have e : (zs.take len).getD j 0 = zs[j] := by simp [List.getD, List.getElem?_take, hj, hj2]
      rw [e]
      exact i64_bd (hwz _ (List.getElem_mem hj2))
end Go.Proofs.Ytidengcihakijaa
/- What is kept when a law stores a result and goes on. -/
namespace Go.Proofs.Ytidengcihakijaa
set_option linter.unusedVariables false
set_option linter.unusedSimpArgs false
open Go Go.RowKit Go.ChangeShapes Go.WideShapes Go.ChangeAt
/-- A variable of its own for a colouring: what is known behind the store. -/
theorem kept_row {w w2 : World} {C D : Array Value} {b : Nat} {t : TypeId} (g : Blk w2 b C t) (h : Below w.heap.size w w2) (Z : Array Value) :
    Blk ((w2.alloc (.cells Z 32)).setRow w2.heap.size D) b C t ∧ Blk ((w2.alloc (.cells Z 32)).setRow w2.heap.size D) w2.heap.size D 32 ∧ Below w.heap.size w ((w2.alloc (.cells Z 32)).setRow w2.heap.size D) :=
  ⟨(g.alloc _).rowOther _ _ (by have := g.lt; omega), (Blk.new _ _ _ _ rfl).rowSame _, below_setRow (h.alloc h.size _) h.size _⟩
theorem copy19b (zs : List Int) (a : Option Addr) (cap : Nat) (w : World) (b : Nat) (hb : b = w.heap.size) (hs : SlI w a zs) (hl : zs.length ≤ 1048576) :
    Calls Try.prog 6 #[.slice a zs.length cap] w fun e w' => e = .returned (.slice (some ⟨b, 0, none⟩) zs.length zs.length) ∧ Blk w' b (icells zs).toArray 2 ∧ Below w.heap.size w w' := by
  subst hb; exact copy19 zs a cap w hs hl
theorem kept_more {w2 : World} {C D : Array Value} {b : Nat} {t : TypeId} (g : Blk w2 b C t) (Z : Array Value) : Blk ((w2.alloc (.cells Z 32)).setRow w2.heap.size D) b C t :=
  (g.alloc _).rowOther _ _ (by have := g.lt; omega)
end Go.Proofs.Ytidengcihakijaa
