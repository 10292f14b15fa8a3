/- above(); the greatest double or book of a graph. -/
import Derived.Test.YtkiocedhibeieaaDoorDbs
namespace Go.Proofs.YtkiocedhibeieaaDoor
set_option linter.unusedVariables false
set_option linter.unusedSimpArgs false
open Go Go.RowKit Go.Shelf
theorem pow_le17 {p : Nat} (h : p ≤ 17) : 2 ^ p ≤ 131072 := Nat.pow_le_pow_right (by omega) h
set_option maxRecDepth 100000 in
set_option maxHeartbeats 1000000 in
theorem above91 (U : Nat) (hU : U < 2 ^ 17) (F : Nat → Nat) (p : Nat) (hp : p < 17) (w : World) :
    Calls Tryd.prog 91 #[.agg (gcell U F).toArray, .int .i64 (p : Int)] w fun e w' => e = .returned (.int .u32 (adn U (2 ^ (p + 1) - 1) : Nat)) ∧ Below w.heap.size w w' := by
  have H0 := hidd (Blk.new w (gcell U F).toArray 79 _ rfl)
  have c0 := H0.out.cell (show (gcell U F).toArray[0]? = some (.int .u32 (U : Int)) from rfl)
  have hp2 := pow_le17 (show p + 1 ≤ 17 by omega)
  have hp1 : 1 ≤ 2 ^ (p + 1) := Nat.one_le_two_pow
  have hk : bits .andNot .u32 (U : Int) ((2 * 2 ^ p - 1) % 4294967296) = ((adn U (2 ^ (p + 1) - 1) : Nat) : Int) := by
    have e1 : (2 : Int) * 2 ^ p = ((2 ^ (p + 1) : Nat) : Int) := by simp [Int.pow_succ, Int.mul_comm]
    rw [e1]
    generalize 2 ^ (p + 1) = y at *
    rw [show ((y : Int) - 1) % 4294967296 = ((y - 1 : Nat) : Int) by omega]
    exact u32_andnot_nat U _ (by omega) (by omega)
  generalize adn U (2 ^ (p + 1) - 1) = X at hk
  have HK := hidd hk
  clear hk hp1 hp2
  go_enter Tryd.func91, Tryd.ntmps91
  go_wp2_with fail
  go_quiet (fail)
  go_wp2_with fail
  go_ret
  exact ⟨by rw [HK.out]; rfl, below_drewN ((Below.refl _ _).alloc (Nat.le_refl _) _) _⟩
theorem oth_false {N i : Nat} (R : Nat → Nat) (hN : N ≤ 17) (hi : i < N) : adn (2 ^ N - 1) (2 ^ (i + 1) - 1) = othX R false N i := by
  have hU := pow_lt17 hN
  apply Nat.eq_of_testBit_eq
  intro j
  rw [adn_bit (by omega)]
  unfold othX dbC
  rw [arK_bit, Nat.testBit_two_pow_sub_one, Nat.testBit_two_pow_sub_one]
  by_cases h1 : j < N
  · by_cases h2 : i < j
    · simp [h1, h2]; omega
    · simp [h1, h2]; omega
  · simp [h1]
theorem oth_true {N i : Nat} (R : Nat → Nat) (hN : N ≤ 17) (hi : i < N) : othX R false N i &&& R i = othX R true N i := by
  apply Nat.eq_of_testBit_eq
  intro j
  rw [Nat.testBit_and]
  unfold othX dbC
  rw [arK_bit, arK_bit]
  by_cases h1 : j < N
  · by_cases h2 : i < j
    · simp [h1, h2]
    · simp [h1, h2]
  · simp [h1]
/-- A pair's cells. -/
def ecell (i j : Nat) : Array Value := #[.int .i64 (i : Int), .int .i64 (j : Int)]
theorem info101 : (Tryd.prog.info? 101).map (fun i => (i.zero, i.size)) = some (some (.agg (ecell 0 0)), 2) := by kernel_rfl
theorem zero101 : ∀ w, (zeroValue 101).run Tryd.prog w = .ok (.agg (ecell 0 0)) w := (zero_of_info info101).1
theorem size101 (i j : Nat) : (Tryd.prog.info? 101).map (·.size) = some (ecell i j).size := (zero_of_info info101).2
theorem ecell_one (i j : Nat) : (ecell i j).all (·.oneCell') = true := by
  rw [Array.all_eq_true_iff_forall_mem]
  intro v hv
  simp [ecell] at hv
  rcases hv with rfl | rfl <;> rfl
theorem built101z : Tryd.prog.built 101 [] = some (ecell 0 0) := by kernel_rfl
theorem built101 (i j : Nat) : Tryd.prog.built 101 [(0, .int .i64 (i : Int)), (1, .int .i64 (j : Int))] = some (ecell i j) := by kernel_rfl
theorem wpList_zero101 {ops : Array Oper} {rest : List Oper} {o : Oper} {a : Act} {w : World} {Q : Exit → Act → World → Prop} (hg : o.guard = none) (ho : o.op = .build 101 #[])
    (h : wpList Tryd.prog ops Q rest (a.put o.dst (.agg (ecell 0 0))) w) : wpList Tryd.prog ops Q (o :: rest) a w := by
  have e : ((#[] : Array (Nat × Operand)).map fun (i, x) => (i, a.eval x)).toList = [] := by simp
  refine wpList_build hg 101 #[] ho ?_ ?_
  · rw [e, built101z]; rfl
  · rw [e, built101z]; exact h
theorem wpList_build101 {ops : Array Oper} {rest : List Oper} {o : Oper} {a : Act} {w : World} {Q : Exit → Act → World → Prop} (hg : o.guard = none) (x y : Operand) (ho : o.op = .build 101 #[(0, x), (1, y)]) (i j : Nat) (hx : a.eval x = .int .i64 (i : Int)) (hy : a.eval y = .int .i64 (j : Int))
    (h : wpList Tryd.prog ops Q rest (a.put o.dst (.agg (ecell i j))) w) : wpList Tryd.prog ops Q (o :: rest) a w := by
  refine wpList_build hg 101 _ ho ?_ ?_
  · rw [parts2, hx, hy, built101]; rfl
  · rw [parts2, hx, hy, built101]; exact h
def RelGd (U : Nat) (F : Nat → Nat) (zs : List Int) (al : Option Addr) (w : World) (s : Int × Nat × Nat) (wr : World) : Prop :=
  Blk wr w.heap.size (gcell U F).toArray 79 ∧ Blk wr (w.heap.size + 1) (ecell 0 0) 101 ∧ Blk wr (w.heap.size + 1 + 1) (ecell s.2.1 s.2.2) 101 ∧ OwnL wr (w.heap.size + 1 + 1 + 1) al zs ∧ Below w.heap.size w wr
theorem RelGd.below {U : Nat} {F : Nat → Nat} {zs : List Int} {al : Option Addr} {w : World} {s : Int × Nat × Nat} {wr w1 : World} (h : RelGd U F zs al w s wr) (hb : Below wr.heap.size wr w1) : RelGd U F zs al w s w1 :=
  ⟨h.1.below hb h.1.lt, h.2.1.below hb h.2.1.lt, h.2.2.1.below hb h.2.2.1.lt, h.2.2.2.1.below hb (Nat.le_refl _), h.2.2.2.2.trans (hb.mono h.2.2.2.2.size)⟩
theorem ownL_setRow {W : World} {B : Nat} {a : Option Addr} {zs : List Int} (h : OwnL W B a zs) {g : Nat} (hg : g < B) (D : Array Value) : OwnL (W.setRow g D) B a zs := by
  rcases h with h | ⟨g', C, h1, h2, h3, h4⟩
  · exact .inl h
  · exact .inr ⟨g', C, h1, h2, h3.rowOther _ _ (by omega), h4⟩
theorem gd_store {U : Nat} {F : Nat → Nat} {zs zl : List Int} {al a3 : Option Addr} {w : World} {s : Int × Nat × Nat} {W : World} (h : RelGd U F zs al w s W) (h2 : OwnL W (w.heap.size + 1 + 1 + 1) a3 zl) (i q : Nat) (x : Int) :
    RelGd U F zs al w (x, i, q) (W.setRow (w.heap.size + 1 + 1) (ecell i q)) ∧ OwnL (W.setRow (w.heap.size + 1 + 1) (ecell i q)) (w.heap.size + 1 + 1 + 1) a3 zl :=
  ⟨⟨h.1.rowOther _ _ (by omega), h.2.1.rowOther _ _ (by omega), h.2.2.1.rowSame _, ownL_setRow h.2.2.2.1 (by omega) _, below_setRow h.2.2.2.2 (by omega) _⟩, ownL_setRow h2 (by omega) _⟩
end Go.Proofs.YtkiocedhibeieaaDoor
