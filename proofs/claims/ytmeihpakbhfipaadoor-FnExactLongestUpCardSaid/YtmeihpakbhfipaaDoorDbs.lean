/- GreatestDouble, GreatestBook: the model. -/
import Derived.Test.YtmeihpakbhfipaaDoorDbm
namespace Go.Proofs.YtmeihpakbhfipaaDoor
set_option linter.unusedVariables false
set_option linter.unusedSimpArgs false
open Go Go.RowKit Go.Shelf
theorem quiet_lft {P : Program} {f : FuncId} {args : Array Value} {w : World} {n : Nat} {v : Value}
    (h : Calls P f args (w.drewN n) fun e w' => e = .returned v ∧ w.drewN n = w') : Calls P f args (w.drewN n) fun e w'' => e = .returned v ∧ ∃ m, w'' = w.drewN m :=
  h.mono fun _ _ ⟨he, hm⟩ => ⟨he, n, hm.symm⟩
def atL (s : Int × Nat × Nat) : List Int := if s.1 < 0 then [] else [(s.2.1 : Int), (s.2.2 : Int)]
theorem atL_mk (x i j : Nat) : atL ((x : Int), i, j) = [(i : Int), (j : Int)] := by unfold atL; rw [if_neg (by show ¬ (x : Int) < 0; omega)]
def RelDb (C : Array Value) (zs : List Int) (ar : Option Addr) (w : World) (s : Int × Nat × Nat) (v : Value) (wr : World) : Prop :=
  Blk wr w.heap.size C 28 ∧ SlI wr ar zs ∧ Below w.heap.size w wr ∧ ∃ a c, v = .slice a (atL s).length c ∧ OwnL wr 0 a (atL s)
theorem RelDb.below {C : Array Value} {zs : List Int} {ar : Option Addr} {w : World} {s : Int × Nat × Nat} {v : Value} {wr w1 : World} (h : RelDb C zs ar w s v wr) (hb : Below wr.heap.size wr w1) : RelDb C zs ar w s v w1 := by
  obtain ⟨h1, h2, h3, a, c, h4, h5⟩ := h
  exact ⟨h1.below hb h1.lt, h2.below hb (Nat.le_refl _), h3.trans (hb.mono h3.size), a, c, h4, h5.below hb (Nat.le_refl _)⟩
theorem own_two (w : World) (i j : Int) : OwnL (w.alloc (.cells #[.int .i64 i, .int .i64 j] 2)) 0 (some ⟨w.heap.size, 0, none⟩) [i, j] :=
  .inr ⟨w.heap.size, _, Nat.zero_le _, rfl, Blk.new _ _ _ _ rfl, Nat.le_refl _, fun m hm => by
    match m, hm with
    | 0, _ => rfl
    | 1, _ => rfl⟩
end Go.Proofs.YtmeihpakbhfipaaDoor
