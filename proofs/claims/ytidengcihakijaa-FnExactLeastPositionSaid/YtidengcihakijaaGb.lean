/- My texts Nbr, Around, Neighbours, Iter, Fence, CountEdges, Paint, ColouringOf, ColouringIm, in one. -/
import Derived.Test.YtidengcihakijaaGa
import Derived.RangeFuncFrom
import Derived.RangeFuncKeeps
import Derived.RangeFuncLeaves
import Derived.Shelf.Abstract
import Derived.OwnWalkIn
import Derived.TacticsInMore
import Derived.LoopNIn
import Derived.LoopIn
import Derived.TacticsIn
import Derived.BigFrameIn
import Derived.Shelf.RegionOpen
import Derived.RangeFuncNested
/- Neighbours as lists and as digits in base 2. -/
namespace Go.Proofs.Ytidengcihakijaa
set_option linter.unusedVariables false
set_option linter.unusedSimpArgs false
open Go Go.RowKit
/-- Is the point j a neighbour of i in the colour c? -/
def nbB (bs : List Nat) (i c : Int) (j : Nat) : Bool := decide ((j : Int) ≠ i) && decide (colAt bs i j = c)
def nbK (p : Nat → Bool) : Nat → List Int
  | 0 => []
  | k + 1 => if p k then nbK p k ++ [(k : Int)] else nbK p k
def arK (p : Nat → Bool) : Nat → Nat
  | 0 => 0
  | k + 1 => if p k then arK p k ||| 2 ^ k else arK p k
theorem nbK_len (p : Nat → Bool) : ∀ k, (nbK p k).length ≤ k
  | 0 => by simp [nbK]
  | k + 1 => by
    have := nbK_len p k
    unfold nbK
    split
    · simp; omega
    · omega
theorem nbK_congr {p q : Nat → Bool} : ∀ (k : Nat), (∀ j, j < k → p j = q j) → nbK p k = nbK q k
  | 0, _ => rfl
  | k + 1, h => by
    unfold nbK
    rw [h k (by omega), nbK_congr k (fun j hj => h j (by omega))]
theorem nbK_more {p : Nat → Bool} {m : Nat} (h : ∀ j, m ≤ j → p j = false) : ∀ (d : Nat), nbK p (m + d) = nbK p m
  | 0 => rfl
  | d + 1 => by
    rw [← Nat.add_assoc, nbK, h (m + d) (by omega)]
    exact nbK_more h d
theorem arK_lt (p : Nat → Bool) : ∀ k, arK p k < 2 ^ k
  | 0 => by simp [arK]
  | k + 1 => by
    have h := arK_lt p k
    have h2 : 2 ^ k < 2 ^ (k + 1) := Nat.pow_lt_pow_right (by omega) (by omega)
    unfold arK
    split
    · exact Nat.or_lt_two_pow (by omega) h2
    · omega
theorem arK_bit (p : Nat → Bool) : ∀ k j, (arK p k).testBit j = (decide (j < k) && p j)
  | 0, j => by simp [arK]
  | k + 1, j => by
    have ih := arK_bit p k j
    unfold arK
    by_cases h : p k = true
    · rw [if_pos h, Nat.testBit_or, ih, Nat.testBit_two_pow]
      by_cases e : k = j
      · subst e; simp [h]
      · by_cases l : j < k
        · simp [l, e, show j < k + 1 by omega]
        · simp [l, e, show ¬ j < k + 1 by omega]
    · rw [if_neg h, ih]
      by_cases e : k = j
      · subst e; simp [h]
      · by_cases l : j < k
        · simp [l, show j < k + 1 by omega]
        · simp [l, show ¬ j < k + 1 by omega]
theorem ofInt_i64 (a : Nat) (ha : a < 18446744073709551616) : (BitVec.ofInt 64 (a : Int)).toNat = a := by
  rw [BitVec.ofInt_natCast, BitVec.toNat_ofNat]; exact Nat.mod_eq_of_lt (by omega)
theorem i64_or_nat (a b : Nat) (ha : a < 4611686018427387904) (hb : b < 4611686018427387904) : bits .or .i64 (a : Int) (b : Int) = ((a ||| b : Nat) : Int) := by
  have hx : a ||| b < 2 ^ 62 := Nat.or_lt_two_pow (by omega) (by omega)
  show IntKind.i64.wrap ((BitVec.ofInt 64 (a : Int) ||| BitVec.ofInt 64 (b : Int)).toNat : Int) = _
  rw [BitVec.toNat_or, ofInt_i64 a (by omega), ofInt_i64 b (by omega)]
  exact IntWalk.i64_in _ (by omega)
theorem i64_and_nat (a b : Nat) (ha : a < 4611686018427387904) (hb : b < 4611686018427387904) : bits .and .i64 (a : Int) (b : Int) = ((a &&& b : Nat) : Int) := by
  have hx : a &&& b < 2 ^ 62 := Nat.and_lt_two_pow _ (by omega)
  show IntKind.i64.wrap ((BitVec.ofInt 64 (a : Int) &&& BitVec.ofInt 64 (b : Int)).toNat : Int) = _
  rw [BitVec.toNat_and, ofInt_i64 a (by omega), ofInt_i64 b (by omega)]
  exact IntWalk.i64_in _ (by omega)
/-- The test of a digit as the walk shows it. -/
theorem bit_test (S j : Nat) (hS : S < 4611686018427387904) : (bits .and .i64 ((S : Int) / 2 ^ j) 1 == 1) = S.testBit j := by
  have e : ((S : Int) / 2 ^ j) = ((S / 2 ^ j : Nat) : Int) := by simp
  have hlt : S / 2 ^ j < 4611686018427387904 := Nat.lt_of_le_of_lt (Nat.div_le_self _ _) hS
  rw [e]
  have := i64_and_nat (S / 2 ^ j) 1 hlt (by omega)
  simp only [Nat.and_one_is_mod] at this
  rw [show ((1 : Nat) : Int) = 1 from rfl] at this
  rw [this, Nat.testBit_eq_decide_div_mod_eq]
  rw [Bool.eq_iff_iff]
  simp only [beq_iff_eq, decide_eq_true_eq]
  omega
theorem one_new (w : World) (x : Value) (t : TypeId) : ∀ j u, [x][j]? = some u → (w.alloc (.cells #[x] t)).cell? ((⟨w.heap.size, 0, none⟩ : Addr).add j) = some u := by
  intro j u hj
  rw [Addr.add_mid]
  cases j with
  | zero => exact (Blk.new w #[x] t _ rfl).cell (by simpa using hj)
  | succ j => simp at hj
def RelPts (p : Nat → Bool) (w : World) (j : Nat) (v : Value) (wr : World) : Prop := wr.ownsRow w.heap.size 2 1 v (nbK p j).length (icells (nbK p j)) ∧ Below w.heap.size w wr
theorem icells_app (a b : List Int) : icells (a ++ b) = icells a ++ icells b := by simp [icells]
end Go.Proofs.Ytidengcihakijaa
/- The neighbours: the model's digits, the program's list. -/
namespace Go.Proofs.Ytidengcihakijaa
set_option linter.unusedVariables false
set_option linter.unusedSimpArgs false
open Go Go.RowKit
theorem or_bit (A j : Nat) (hA : A < 2 ^ 17) (hj : j < 17) : bits .or .i64 (A : Int) (wrap64 (2 ^ j)) = ((A ||| 2 ^ j : Nat) : Int) := by
  have h2 : 2 ^ j < 2 ^ 17 := Nat.pow_lt_pow_right (by omega) hj
  have e : (2 : Int) ^ j = ((2 ^ j : Nat) : Int) := by simp
  rw [e]
  generalize 2 ^ j = y at *
  rw [IntWalk.wrap64_in _ ⟨by omega, by omega⟩]
  exact i64_or_nat A y (by omega) (by omega)
def Rel63 (C : Array Value) (w : World) (wr : World) : Prop := Blk wr w.heap.size C 32 ∧ Below w.heap.size w wr
/-- Behind an append: below the list's own blocks nothing has turned. -/
theorem grown_step {w1 w2 : World} {B : Nat} {e : TypeId} {size : Nat} {v : Value} {n : Nat} {xs : List Value} {o : Obj} (hown : w1.ownsRow B e size v n xs) (hg : (w1.alloc o).grownBy w2 v.ownBlock) (hB : B ≤ w1.heap.size) : Below B w1 w2 :=
  ((Below.refl B w1).alloc hB o).grown hg (by simp; omega) (fun g hgg => by
    rcases hown.2 with ⟨h1, _⟩ | ⟨g', cap', cur', h1, h2, _⟩
    · rw [h1] at hgg; cases hgg
    · rw [h1] at hgg; cases hgg; exact h2)
theorem own_base {w : World} {B B' : Nat} {e : TypeId} {size : Nat} {v : Value} {n : Nat} {xs : List Value} (h : w.ownsRow B e size v n xs) (hB : B' ≤ B) : w.ownsRow B' e size v n xs := by
  refine ⟨h.1, ?_⟩
  rcases h.2 with h2 | ⟨g, cap, cur, hv, hg, r⟩
  · exact .inl h2
  · exact .inr ⟨g, cap, cur, hv, by omega, r⟩
def RelN (p : Nat → Bool) (C : Array Value) (w : World) (j : Nat) (v : Value) (wr : World) : Prop := Blk wr w.heap.size C 32 ∧ wr.ownsRow (w.heap.size + 1) 2 1 v (nbK p j).length (icells (nbK p j)) ∧ Below w.heap.size w wr
theorem RelN.skip {p : Nat → Bool} {C : Array Value} {w wr w1 : World} {j : Nat} {v : Value} (h : RelN p C w j v wr) (hb : Below wr.heap.size wr w1) (hp : p j = false) : RelN p C w (j + 1) v w1 :=
  ⟨h.1.below hb h.1.lt, by rw [nbK, hp]; exact own_below h.2.1 hb (Nat.le_refl _), h.2.2.trans (hb.mono h.2.2.size)⟩
end Go.Proofs.Ytidengcihakijaa
/- NeighboursOf: the program and its model. -/
namespace Go.Proofs.Ytidengcihakijaa
set_option linter.unusedVariables false
set_option linter.unusedSimpArgs false
open Go Go.RowKit
/-- A list of the call's own and a code. -/
def LOut (w : World) (zs : List Int) (code : Int) (e : Ending) (w' : World) : Prop :=
  ∃ a cap, e = .returned (.tuple #[.slice a zs.length cap, .int .i64 code]) ∧ OwnL w' w.heap.size a zs ∧ Below w.heap.size w w'
theorem lout_nil {w w' : World} {code : Int} {e : Ending} (he : e = .returned (.tuple #[.slice none 0 0, .int .i64 code])) (hb : Below w.heap.size w w') : LOut w [] code e w' := ⟨none, 0, he, .inl rfl, hb⟩
theorem lout_own {w w' : World} {zs : List Int} {code : Int} {e : Ending} {v : Value} {B : Nat} (he : e = .returned (.tuple #[v, .int .i64 code])) (h : w'.ownsRow B 2 1 v zs.length (icells zs)) (hB : w.heap.size ≤ B) (hb : Below w.heap.size w w') : LOut w zs code e w' := by
  obtain ⟨a, cap, rfl, ho⟩ := own_list (own_base h hB)
  exact ⟨a, cap, he, ho, hb⟩
def nbCode (n k : Int) (bs : List Nat) (i c : Int) : Int := given n k bs c [i]
def nbList (n k : Int) (bs : List Nat) (i c : Int) : List Int := if given n k bs c [i] = 0 then nbK (nbB bs i c) n.toNat else []
theorem all1 (i n : Int) : allB [i] n = belowB i n := by simp [allB]
theorem nb_bad {n k : Int} {bs : List Nat} {i c m : Int} (h : given n k bs c [i] = m) (hm : m ≠ 0) : nbList n k bs i c = [] ∧ nbCode n k bs i c = m := by
  unfold nbList nbCode; rw [h]; exact ⟨if_neg hm, rfl⟩
theorem nb_good {n k : Int} {bs : List Nat} {i c : Int} (h : given n k bs c [i] = 0) : nbList n k bs i c = nbK (nbB bs i c) n.toNat ∧ nbCode n k bs i c = 0 := by
  unfold nbList nbCode; rw [h]; exact ⟨if_pos rfl, rfl⟩
theorem nbList_len {n k : Int} {bs : List Nat} {i c : Int} : (nbList n k bs i c).length ≤ 17 := by
  unfold nbList
  split
  · rename_i h
    cases hi : isCol n k bs with
    | false => rw [given_1 hi] at h; cases h
    | true =>
      have := isCol_bd hi
      have := nbK_len (nbB bs i c) n.toNat
      omega
  · simp
theorem nb62 (p : Nat → Bool) (N : Nat) (h : N ≤ 62) : nbK (fun j => decide (j < N) && p j) 62 = nbK p N := by
  have h1 := nbK_more (p := fun j => decide (j < N) && p j) (m := N) (fun j hj => by simp [show ¬ j < N by omega]) (62 - N)
  rw [show N + (62 - N) = 62 by omega] at h1
  rw [h1]
  exact nbK_congr N (fun j hj => by simp [hj])
theorem sl1 (w : World) (i : Int) (t : TypeId) (b : Nat) (hb : b = w.heap.size) : SlI (w.alloc (.cells #[.int .i64 i] t)) (some ⟨b, 0, none⟩) [i] := by
  refine .inr ⟨_, _, rfl, fun m hm => ?_⟩
  have hB := Blk.new w #[.int .i64 i] t b hb
  match m, hm with
  | 0, _ => exact hB.cell rfl
end Go.Proofs.Ytidengcihakijaa
/- The function that gives the edges, one by one: its contract for every loop body that leaves its captured number alone. -/
namespace Go.Proofs.Ytidengcihakijaa
set_option linter.unusedVariables false
set_option linter.unusedSimpArgs false
open Go Go.RowKit Go.Shelf
attribute [local go_sem] Oper.semAt_some
/-- The number of the first edge of the greater point h. -/
def eN : Nat → Nat
  | 0 => 0
  | h + 1 => eN h + h
/-- The first l edges of the greater point h: number, lesser point, greater point. -/
def rowE (h l : Nat) : List (Nat × Nat × Nat) := (List.range l).map fun m => (eN h + m, m, h)
/-- The edges whose greater point is less than h. -/
def eseq : Nat → List (Nat × Nat × Nat)
  | 0 => []
  | h + 1 => eseq h ++ rowE h h
theorem eN_edg (h : Nat) : (eN h : Int) = edg (h : Int) := by
  induction h with
  | zero => rfl
  | succ h ih =>
    have := edg_step (h : Int)
    rw [eN]
    rw [show ((h + 1 : Nat) : Int) = (h : Int) + 1 by omega, this]; omega
theorem eseq_len (h : Nat) : (eseq h).length = eN h := by
  induction h with
  | zero => rfl
  | succ h ih => rw [eseq, eN, List.length_append, ih, rowE]; simp
theorem rowE_succ (h l : Nat) : rowE h (l + 1) = rowE h l ++ [(eN h + l, l, h)] := by
  simp [rowE, List.range_succ]
theorem eN_mono {a b : Nat} (h : a ≤ b) : eN a ≤ eN b := by
  induction b with
  | zero => obtain rfl : a = 0 := by omega
            exact Nat.le_refl _
  | succ b ih =>
    by_cases e : a = b + 1
    · subst e; exact Nat.le_refl _
    · exact Nat.le_trans (ih (by omega)) (by rw [eN]; omega)
theorem eN_17 {n : Nat} (h : n ≤ 17) : eN n ≤ 136 := by
  have := eN_mono h
  have e : eN 17 = 136 := rfl
  omega
/-- An edge between N points: its number, its lesser point, its greater point. -/
def Edg (N : Nat) : Type := { x : Nat × Nat × Nat // x.1 = eN x.2.2 + x.2.1 ∧ x.2.1 < x.2.2 ∧ x.2.2 < N }
def Edg.v {N : Nat} (x : Edg N) : Nat × Nat × Nat := x.1
def encE {N : Nat} (x : Edg N) : Array Value := #[.int .i64 (x.1.1 : Int), .agg #[.int .i64 (x.1.2.1 : Int), .int .i64 (x.1.2.2 : Int)]]
theorem Edg.lt {N : Nat} (x : Edg N) : x.1.1 < eN N := by
  obtain ⟨h1, h2, h3⟩ := x.2
  have := eN_mono (show x.1.2.2 + 1 ≤ N by omega)
  rw [eN] at this; omega
/-- The block B lies as it lay. -/
def KpB (B : Nat) (W W' : World) : Prop := W'.heap[B]? = W.heap[B]?
theorem kpB_t {B : Nat} {X Y Z : World} (h : KpB B X Y) (k : KpB B Y Z) : KpB B X Z := Eq.trans k h
theorem kpB_b {B : Nat} {w : World} (hB : B < w.heap.size) (W : World) (l : Nat) (o o' : Obj) (hl : w.heap.size ≤ l) (_ : W.heap[l]? = some o) (_ : o.isCells = false) (_ : o.isWalk = false) : KpB B W (W.putObj l o') :=
  World.putObj_heap_other (by omega)
theorem blk_kp {B : Nat} {W W' : World} {C : Array Value} {t : TypeId} (h : Blk W B C t) (k : KpB B W W') : Blk W' B C t := Eq.trans k h
def RelI (Bn : Nat) (N : Nat) (J : List (Edg N) → World → Prop) (xs : List (Nat × Nat × Nat)) (wr : World) : Prop := (∃ ys : List (Edg N), ys.map Edg.v = xs ∧ J ys wr) ∧ Blk wr Bn #[.int .i64 (N : Int)] 2
set_option maxRecDepth 100000 in
set_option maxHeartbeats 1000000 in
theorem iter80 (m l Bn : Nat) (N : Nat) (hN1 : 1 ≤ N) (hN : N ≤ 17) (J Jx : List (Edg N) → World → Prop)
    (hY : ∀ pre x W, J pre W → pre.length < eN N → YieldAt Fence.wide m Try.prog l (encE x) W fun e W' =>
      (e = .returned (.bool true) ∧ J (pre ++ [x]) W' ∧ KpB Bn W W') ∨ (e = .returned (.bool false) ∧ Jx (pre ++ [x]) W'))
    (W : World) (hB : Blk W Bn #[.int .i64 (N : Int)] 2) (h0 : J [] W) :
    CallsIn Fence.wide (m + 1) Try.prog 60 #[.func (.yield l) #[] #[], .pointer (some ⟨Bn, 0, none⟩)] W fun e W' => (∃ v, e = .returned v) ∧
      ((∃ ys : List (Edg N), ys.map Edg.v = eseq N ∧ J ys W') ∨ (∃ pre, True ∧ Jx pre W')) := by
  refine callsIn_of_wp Try.func60 rfl trivial ?_ rfl
  simp only [Try.ntmps60, List.size_toArray, List.length_cons, List.length_nil, Nat.reduceAdd, Nat.reduceSub, Array.replicate_succ, Array.replicate_zero, List.push_toArray, List.append_toArray, List.nil_append, List.cons_append]
  have HY := hidd hY
  clear hY
  gi_wp2
  gi_loopw [3, 4] (fun k h wr => ∃ b : Nat, b ≤ N ∧ 1 ≤ b ∧ h = .int .i64 b ∧ k = .int .i64 (eN b : Nat) ∧ RelI Bn N J (eseq b) wr)
    (fun _ h _ => N - (intOf h).toNat)
  case atStart => exact ⟨1, hN1, Nat.le_refl _, rfl, rfl, ⟨[], rfl, h0⟩, hB⟩
  case round =>
    obtain ⟨b, hb, hb1, rfl, rfl, HR⟩ := hrel
    obtain ⟨wo, rfl⟩ : ∃ wo : World, wo = wr := ⟨_, rfl⟩
    have hc := HR.2.cell (j := 0) (show _ = some (Value.int .i64 (N : Int)) from rfl)
    have hbig := eN_17 hN
    have hbb := eN_mono hb
    by_cases hlt : b < N
    · have HH := hidd HR
      clear HR
      gi_wp2
      gi_loopw [3, 5] (fun k e wr => ∃ i q : Nat, i ≤ b ∧ q = eN b + i ∧ e = .int .i64 i ∧ k = .int .i64 (q : Int) ∧ RelI Bn N J (eseq b ++ rowE b i) wr)
        (fun _ e _ => b - (intOf e).toNat)
      case atStart => exact ⟨0, eN b, by omega, rfl, rfl, rfl, by simpa [rowE] using HH.out⟩
      case round =>
        obtain ⟨i, q, hi, hq, rfl, rfl, HR2⟩ := hrel
        have hqb : q ≤ 272 := by omega
        have HQ := hidd hq
        clear hq
        by_cases hlt2 : i < b
        · obtain ⟨⟨ys, hys, hJy⟩, hBy⟩ := HR2
          have hlen : ys.length < eN N := by
            have h1 := eN_mono (show b + 1 ≤ N by omega)
            rw [eN] at h1
            have h2 : (ys.map Edg.v).length = (eseq b ++ rowE b i).length := by rw [hys]
            rw [List.length_map, List.length_append, eseq_len] at h2
            simp [rowE] at h2; omega
          have HYS := hidd hys
          clear hys
          obtain ⟨fn, tmps, assign, body, hy, hR⟩ := HY.out ys ⟨(q, i, b), HQ.out, hlt2, hlt⟩ wr hJy hlen
          have HK := hidd hBy
          have HRR := hidd hR
          clear hBy hR hlen hJy
          dsimp only [encE] at hy
          gi_wp2
          refine HRR.out.mono ?_
          rintro e W3 (⟨rfl, hJ3, hk3⟩ | ⟨rfl, hx3⟩)
          · have hrow : rowE b (i + 1) = rowE b i ++ [(q, i, b)] := by rw [rowE_succ, HQ.out]
            have K3 := hidd (show RelI Bn N J (eseq b ++ rowE b (i + 1)) W3 from ⟨⟨_, by rw [List.map_append, HYS.out, hrow, ← List.append_assoc]; rfl, hJ3⟩, blk_kp HK.out hk3⟩)
            clear hJ3 hk3 hrow
            gi_wp2
            go_roundw
            case rel => exact ⟨i + 1, q + 1, by omega, by have := HQ.out; omega, by go_num, by go_num, K3.out⟩
            case measure => simp [intOf]; omega
          · have X3 := hidd hx3
            clear hx3
            gi_wp2
            refine bodyPost_ret (results_none rfl _ _ _) rfl ?_
            exact ⟨⟨_, rfl⟩, .inr ⟨_, trivial, X3.out⟩⟩
        · have hib : i = b := by omega
          subst hib
          have HK := hidd HR2
          clear HR2
          gi_wp2
          go_roundw
          case rel => exact ⟨i + 1, by omega, by omega, by go_num, by rw [eN, ← HQ.out], by rw [eseq]; exact HK.out⟩
          case measure => simp [intOf]; omega
    · have hbN : b = N := by omega
      subst hbN
      have HK := hidd HR
      clear HR
      gi_wp2
      go_end0
      exact ⟨⟨_, rfl⟩, .inl HK.out.1⟩
end Go.Proofs.Ytidengcihakijaa
/- Whole rows loaded and stored inside a fence, and the edges' function as a value. -/
namespace Go.Proofs.Ytidengcihakijaa
set_option linter.unusedVariables false
set_option linter.unusedSimpArgs false
open Go Go.RowKit Go.Shelf
section
variable {F : Fence} {n : Nat} {P : Program} {ops : Array Oper} {rest : List Oper} {o : Oper} {a : Act} {w : World} {Q : Exit → Act → World → Prop}
theorem inLoadRow (hgd : o.guard = none) (ty : TypeId) (x : Operand) (ho : o.op = .load ty x)
    (g : Nat) (hx : a.eval x = .pointer (some ⟨g, 0, none⟩)) (t : TypeId) (cs : Array Value) (d : TypeDesc) (hg : Blk w g cs t)
    (hu : P.underlying ty = some d) (hd : (match d with | .struct _ | .array _ _ => true | _ => false) = true) (hi : (P.info? ty).map (·.size) = some cs.size)
    (h : wpListIn F n P ops Q rest (a.put o.dst (.agg cs)) w) : wpListIn F n P ops Q (o :: rest) a w := by
  refine wpListIn_plain hgd fun K hK => ?_
  unfold Oper.wpIn
  rw [Oper.semAt_eq _ _ _ (fun c h => by rw [ho] at h; cases h)]
  refine ⟨fun f hf => by simp [Oper.about, ho] at hf, ?_⟩
  unfold execOp
  simp only [ho, hx, Instr.loadAt, Instr.sureAddr, Sem.run_bind, Sem.run_pure, Result.andThen_ok, run_loadVar_row w g t ty cs (0, 0) d hg hu hd hi]
  exact hK _ _ h
theorem inStoreRow (hgd : o.guard = none) (ty : TypeId) (x y : Operand) (ho : o.op = .store ty x y)
    (g : Nat) (cells : Array Value) (hx : a.eval x = .pointer (some ⟨g, 0, none⟩)) (hy : a.eval y = .agg cells)
    (t : TypeId) (old : Array Value) (hg : Blk w g old t) (hi : (P.info? ty).map (·.size) = some cells.size)
    (hold : old.size = cells.size) (h1 : cells.all (·.oneCell') = true)
    (h : wpListIn F n P ops Q rest (a.put o.dst undef) (w.setRow g cells)) : wpListIn F n P ops Q (o :: rest) a w := by
  refine wpListIn_plain hgd fun K hK => ?_
  unfold Oper.wpIn
  rw [Oper.semAt_eq _ _ _ (fun c h => by rw [ho] at h; cases h)]
  refine ⟨fun f hf => by simp [Oper.about, ho] at hf, ?_⟩
  unfold execOp
  simp only [ho, hx, hy, Instr.storeAt, Instr.sureAddr, Sem.run_bind, Sem.run_pure, Result.andThen_ok, run_storeVar_row w g t ty old cells hg hi hold h1]
  exact hK _ _ h
end
set_option maxRecDepth 100000 in
theorem edges66 (n : Int) (w : World) : Calls Try.prog 41 #[.int .i64 n] w fun e w' => e = .returned (.func (.func 60) #[] #[.pointer (some ⟨w.heap.size, 0, none⟩)]) ∧ w.alloc (.cells #[.int .i64 n] 2) = w' := by
  have hmf : ∀ (fn : Fn) (first cap : Array Value) (w : World), (Instr.makeFunc fn first cap).run Try.prog w = .ok (.func fn first cap) w := fun _ _ _ _ => rfl
  go_enter Try.func41, Try.ntmps41
  go_wp2
  go_ret
  exact ⟨rfl, rfl⟩
theorem seq80 (m Bn N : Nat) (hN1 : 1 ≤ N) (hN : N ≤ 17) (w : World) (hB : Blk w Bn #[.int .i64 (N : Int)] 2) :
    SeqStopsK Fence.wide (m + 1) Try.prog 60 #[.pointer (some ⟨Bn, 0, none⟩)] (fun x : Edg N => encE x) (KpB Bn) (fun ys => ys.map Edg.v = eseq N) (fun _ => True) (eN N) w := fun l J Jx W hW _ _ hY h0 =>
  iter80 m l Bn N hN1 hN J Jx hY W (hB.below hW hB.lt) h0
end Go.Proofs.Ytidengcihakijaa
/- CountEdges: the program and its model. -/
namespace Go.Proofs.Ytidengcihakijaa
set_option linter.unusedVariables false
set_option linter.unusedSimpArgs false
open Go Go.RowKit Go.Shelf
attribute [local go_sem] Oper.semAt_some
/-- The numbers of the edges of each colour, over the first j edges. -/
def cntL (K : Nat) (bs : List Nat) : Nat → List Int
  | 0 => List.replicate K 0
  | j + 1 => (cntL K bs j).set (bs.getD j 0) ((cntL K bs j).getD (bs.getD j 0) 0 + 1)
theorem cntL_len (K : Nat) (bs : List Nat) : ∀ j, (cntL K bs j).length = K
  | 0 => by simp [cntL]
  | j + 1 => by rw [cntL, List.length_set, cntL_len K bs j]
theorem cntL_bd (K : Nat) (bs : List Nat) : ∀ j c, 0 ≤ (cntL K bs j).getD c 0 ∧ (cntL K bs j).getD c 0 ≤ j
  | 0, c => by
    rw [cntL, List.getD_eq_getElem?_getD, List.getElem?_replicate]
    split <;> simp
  | j + 1, c => by
    have h1 := cntL_bd K bs j c
    have h2 := cntL_bd K bs j (bs.getD j 0)
    rw [cntL]
    simp only [List.getD_eq_getElem?_getD] at *
    rw [List.getElem?_set]
    split
    · split
      · simp; omega
      · simp; omega
    · omega
theorem zrow_icells (K : Nat) : zrow K = (icells (List.replicate K 0)).toArray := by
  apply Array.ext'
  rw [zrow, toList_madeCells_one]
  simp [icells]
theorem icells_set (zs : List Int) (c : Nat) (v : Int) : (icells zs).toArray.setIfInBounds c (.int .i64 v) = (icells (zs.set c v)).toArray := by
  simp [icells, List.map_set]
def ceCode (n k : Int) (bs : List Nat) : Int := if isCol n k bs then 0 else 1
def ceList (n k : Int) (bs : List Nat) : List Int := if isCol n k bs then cntL k.toNat bs (eN n.toNat) else []
theorem ceList_len {n k : Int} {bs : List Nat} : (ceList n k bs).length ≤ 17 := by
  unfold ceList
  split
  · rename_i h
    have := isCol_bd h
    rw [cntL_len]; omega
  · simp
theorem col_lt {n k : Int} {bs : List Nat} (h : isCol n k bs = true) {j : Nat} (hj : (j : Int) < edg n) (hj2 : j < 136) : ((bs.getD j 0 : Nat) : Int) < k := by
  have h1 := (isCol_good h).2 j hj2
  unfold goodAt at h1
  rw [if_pos hj] at h1
  exact of_decide_eq_true h1
/-- The numbers of the edges of each colour, over edges that have come. -/
def cntF {N : Nat} (K : Nat) (bs : List Nat) (xs : List (Edg N)) : List Int := xs.foldl (fun L x => L.set (bs.getD x.1.1 0) (L.getD (bs.getD x.1.1 0) 0 + 1)) (List.replicate K 0)
theorem cntF_snoc {N : Nat} (K : Nat) (bs : List Nat) (xs : List (Edg N)) (x : Edg N) : cntF K bs (xs ++ [x]) = (cntF K bs xs).set (bs.getD x.1.1 0) ((cntF K bs xs).getD (bs.getD x.1.1 0) 0 + 1) := by simp [cntF]
theorem cntF_len {N : Nat} (K : Nat) (bs : List Nat) (xs : List (Edg N)) : (cntF K bs xs).length = K := by
  unfold cntF
  suffices h : ∀ (L : List Int), (xs.foldl (fun L x => L.set (bs.getD x.1.1 0) (L.getD (bs.getD x.1.1 0) 0 + 1)) L).length = L.length by rw [h]; simp
  induction xs with
  | nil => intro L; rfl
  | cons x xs ih => intro L; rw [List.foldl_cons, ih]; simp
theorem eseq_nums (h : Nat) : (eseq h).map (·.1) = List.range (eN h) := by
  induction h with
  | zero => rfl
  | succ h ih =>
    rw [eseq, List.map_append, ih, eN, List.range_add]
    simp [rowE]
theorem cntF_eq {N : Nat} (K : Nat) (bs : List Nat) (xs : List (Edg N)) (h : xs.map Edg.v = eseq N) : cntF K bs xs = cntL K bs (eN N) := by
  have h1 : xs.map (fun x => x.1.1) = List.range (eN N) := by
    rw [← eseq_nums, ← h, List.map_map]; rfl
  have h2 : cntF K bs xs = (xs.map (fun x => x.1.1)).foldl (fun L j => L.set (bs.getD j 0) (L.getD (bs.getD j 0) 0 + 1)) (List.replicate K 0) := by
    rw [List.foldl_map]; rfl
  rw [h2, h1]
  generalize eN N = m
  induction m with
  | zero => rfl
  | succ m ih => rw [List.range_succ, List.foldl_append, ih]; rfl
theorem cntF_bd {N : Nat} (K : Nat) (bs : List Nat) (xs : List (Edg N)) : ∀ c, 0 ≤ (cntF K bs xs).getD c 0 ∧ (cntF K bs xs).getD c 0 ≤ xs.length := by
  suffices h : ∀ (ys : List (Edg N)) c, 0 ≤ (cntF K bs ys.reverse).getD c 0 ∧ (cntF K bs ys.reverse).getD c 0 ≤ ys.length by
    intro c
    have := h xs.reverse c
    simpa using this
  intro ys
  induction ys with
  | nil =>
    intro c
    rw [show cntF K bs ([] : List (Edg N)).reverse = List.replicate K 0 from rfl, List.getD_eq_getElem?_getD, List.getElem?_replicate]
    split <;> simp
  | cons y ys ih =>
    intro c
    have h1 := ih c
    have h2 := ih (bs.getD y.1.1 0)
    rw [List.reverse_cons, cntF_snoc]
    simp only [List.getD_eq_getElem?_getD, List.length_cons] at *
    rw [List.getElem?_set]
    split
    · split
      · simp; omega
      · simp; omega
    · omega
theorem ko_drew (W : World) : KeepsOthers W W.drew := ⟨Nat.le_refl _, fun _ _ h _ => h⟩
theorem blk_own {B b : Nat} {W W' : World} {C : Array Value} {t : TypeId} {row : Option Nat} (h : Blk W b C t) (hg : W.grownBy W' row) (hr : ∀ r, row = some r → B ≤ r ∧ ∃ o : Obj, W.heap[r]? = some o ∧ o.isCells = false) : Blk W' b C t := by
  refine (hg.block b h.lt (fun e => ?_)).trans h
  obtain ⟨_, o, ho, hc⟩ := hr b e.symm
  rw [show W.heap[b]? = _ from h] at ho
  cases ho; cases hc
def Rel33 (C : Array Value) (K : Nat) (bs : List Nat) (w : World) (j : Nat) (wr : World) : Prop := Blk wr w.heap.size C 32 ∧ (∃ b, w.heap.size < b ∧ b = w.heap.size + 1 ∧ True) ∧ Below w.heap.size w wr
/-- A list in a block of its own, handed back. -/
theorem own_blk {w : World} {b : Nat} {zs : List Int} {B : Nat} (h : Blk w b (icells zs).toArray 2) (hB : B ≤ b) : OwnL w B (some ⟨b, 0, none⟩) zs :=
  .inr ⟨b, _, hB, rfl, h, by simp [icells_len], fun j hj => icells_get hj⟩
def RelC (n : Int) (k : Int) (bs : List Nat) (g : Nat) (w : World) (j : Nat) (wr : World) : Prop := Blk wr w.heap.size (ccells n k bs).toArray 32 ∧ Blk wr g (icells (cntL k.toNat bs j)).toArray 2 ∧ Below w.heap.size w wr
end Go.Proofs.Ytidengcihakijaa
/- A colouring that a rule tells: the program's paint, for every rule that answers and leaves what lay before it. -/
namespace Go.Proofs.Ytidengcihakijaa
set_option linter.unusedVariables false
set_option linter.unusedSimpArgs false
open Go Go.RowKit Go.Shelf
attribute [local go_sem] Oper.semAt_some
section
variable {F : Fence} {n : Nat} {P : Program} {ops : Array Oper} {rest : List Oper} {o : Oper} {a : Act} {w : World} {Q : Exit → Act → World → Prop}
theorem inBuild (hgd : o.guard = none) (t : TypeId) (parts : Array (Nat × Operand)) (ho : o.op = .build t parts) (cells : Array Value)
    (hc : P.built t (parts.map fun (i, x) => (i, a.eval x)).toList = some cells) (h : wpListIn F n P ops Q rest (a.put o.dst (.agg cells)) w) : wpListIn F n P ops Q (o :: rest) a w := by
  refine wpListIn_plain hgd fun K hK => ?_
  unfold Oper.wpIn
  rw [Oper.semAt_eq _ _ _ (fun c h => by rw [ho] at h; cases h)]
  refine ⟨fun f hf => by simp [Oper.about, ho] at hf, ?_⟩
  unfold execOp
  simp only [ho, Sem.run_bind, run_build w t _ cells hc, Result.andThen_ok]
  exact hK _ _ h
end
theorem built26nk (n k : Int) : Try.prog.built 32 [(0, .int .i64 n), (1, .int .i64 k)] = some (ccells n k zbl).toArray := by kernel_rfl
/-- The bytes that a rule gives the edges that have come. -/
def pbF {N : Nat} (r : Nat → Nat → Int) (xs : List (Edg N)) : List Nat := xs.foldl (fun b x => b.set x.1.1 (r x.1.2.1 x.1.2.2).toNat) zbl
theorem pbF_snoc {N : Nat} (r : Nat → Nat → Int) (xs : List (Edg N)) (x : Edg N) : pbF r (xs ++ [x]) = (pbF r xs).set x.1.1 (r x.1.2.1 x.1.2.2).toNat := by simp [pbF]
theorem pbF_bys {N : Nat} {r : Nat → Nat → Int} (hr : ∀ x : Edg N, 0 ≤ r x.1.2.1 x.1.2.2 ∧ r x.1.2.1 x.1.2.2 < 256) (xs : List (Edg N)) : Bys (pbF r xs) := by
  unfold pbF
  suffices h : ∀ b, Bys b → Bys (xs.foldl (fun b x => b.set x.1.1 (r x.1.2.1 x.1.2.2).toNat) b) from h _ zbl_bys
  induction xs with
  | nil => intro b hb; exact hb
  | cons x xs ih => intro b hb; exact ih _ (hb.set _ _ (by have := hr x; omega))
def paintB (N : Nat) (r : Nat → Nat → Int) : List Nat := (eseq N).foldl (fun b t => b.set t.1 (r t.2.1 t.2.2).toNat) zbl
theorem pbF_eq {N : Nat} (r : Nat → Nat → Int) (xs : List (Edg N)) (h : xs.map Edg.v = eseq N) : pbF r xs = paintB N r := by
  unfold paintB pbF
  rw [← h, List.foldl_map]
  rfl
/-- A rule, as a function value: it answers for each edge, in every world in which all that lay in w lies as it lay. -/
def Rule (N : Nat) (g : Nat) (lb : Array Value) (r : Nat → Nat → Int) (w : World) : Prop :=
  ∀ (x : Edg N) (W : World), Below w.heap.size w W → Calls Try.prog g (#[.int .i64 (x.1.2.1 : Int), .int .i64 (x.1.2.2 : Int)] ++ lb) W fun e W' => e = .returned (.int .i64 (r x.1.2.1 x.1.2.2)) ∧ Below W.heap.size W W'
theorem keeps_below {B : Nat} {W W' : World} (h : Below W.heap.size W W') : KeepsFrom B W W' := ⟨h.size, fun k o _ hk _ => (h.block k (Array.getElem?_eq_some_iff.1 hk).1).trans hk⟩
def RelPt {N : Nat} (k : Int) (g : Nat) (lb : Array Value) (r : Nat → Nat → Int) (w : World) (pre : List (Edg N)) (W : World) : Prop :=
  Blk W w.heap.size #[.func (.func g) #[] lb] 71 ∧ Blk W (w.heap.size + 1) (ccells 0 0 zbl).toArray 32 ∧ Blk W (w.heap.size + 1 + 1) (ccells (N : Int) k (pbF r pre)).toArray 32 ∧ Below w.heap.size w W
end Go.Proofs.Ytidengcihakijaa
/- ColouringOf: the program and its model. -/
namespace Go.Proofs.Ytidengcihakijaa
set_option linter.unusedVariables false
set_option linter.unusedSimpArgs false
open Go Go.RowKit Go.Shelf
def coCode (n k : Int) (zs : List Int) : Int := if shapeB n k = true ∧ (zs.length : Int) = edg n ∧ allB zs k = true then 0 else 2
def coN (n k : Int) (zs : List Int) : Int := if coCode n k zs = 0 then n else 0
def coK (n k : Int) (zs : List Int) : Int := if coCode n k zs = 0 then k else 0
def coB (n k : Int) (zs : List Int) : List Nat := if coCode n k zs = 0 then putK zbl 0 zs zs.length else zbl
/-- What ColouringOf returns. -/
def coOut (n k : Int) (zs : List Int) : Value := .tuple #[.agg (ccells (coN n k zs) (coK n k zs) (coB n k zs)).toArray, .int .i64 (coCode n k zs)]
theorem coOut_bad {n k : Int} {zs : List Int} (h : ¬ (shapeB n k = true ∧ (zs.length : Int) = edg n ∧ allB zs k = true)) : coOut n k zs = .tuple #[.agg (ccells 0 0 zbl).toArray, .int .i64 2] := by
  have e : coCode n k zs = 2 := if_neg h
  simp [coOut, coN, coK, coB, e]
theorem coOut_good {n k : Int} {zs : List Int} (h : shapeB n k = true ∧ (zs.length : Int) = edg n ∧ allB zs k = true) : coOut n k zs = .tuple #[.agg (ccells n k (putK zbl 0 zs zs.length)).toArray, .int .i64 0] := by
  have e : coCode n k zs = 0 := if_pos h
  simp [coOut, coN, coK, coB, e]
theorem all_lt {zs : List Int} {k : Int} (h : allB zs k = true) (hk : k ≤ 4) : ∀ j, j < zs.length → 0 ≤ zs.getD j 0 ∧ zs.getD j 0 < 256 := fun j hj => by have := allB_get h hj; omega
theorem coB_bys (n k : Int) (zs : List Int) : Bys (coB n k zs) := by
  unfold coB
  split
  · rename_i h
    unfold coCode at h
    split at h
    · rename_i h2
      exact putK_bys zbl_bys 0 (all_lt h2.2.2 (shape_bd h2.1).2.2.2) _ (Nat.le_refl _)
    · omega
  · exact zbl_bys
theorem putK_range (zs : List Int) : ∀ m, putK zbl 0 zs m = (List.range m).foldl (fun b j => b.set j (zs.getD j 0).toNat) zbl
  | 0 => rfl
  | m + 1 => by rw [List.range_succ, List.foldl_append, ← putK_range zs m, putK, Nat.zero_add]; rfl
theorem eseq_mem {h : Nat} {t : Nat × Nat × Nat} (ht : t ∈ eseq h) : t.1 = eN t.2.2 + t.2.1 := by
  induction h with
  | zero => simp [eseq] at ht
  | succ h ih =>
    rw [eseq, List.mem_append] at ht
    rcases ht with ht | ht
    · exact ih ht
    · simp only [rowE, List.mem_map] at ht
      obtain ⟨m, _, rfl⟩ := ht
      rfl
theorem foldl_congr {α β : Type} {f g : β → α → β} : ∀ (l : List α) (b : β), (∀ x ∈ l, ∀ b, f b x = g b x) → l.foldl f b = l.foldl g b
  | [], _, _ => rfl
  | x :: l, b, h => by
    rw [List.foldl_cons, List.foldl_cons, h x (by simp) b]
    exact foldl_congr l _ (fun y hy => h y (by simp [hy]))
theorem paint_list (N : Nat) (zs : List Int) : paintB N (fun lo hi => zs.getD (eN hi + lo) 0) = putK zbl 0 zs (eN N) := by
  rw [putK_range, ← eseq_nums, List.foldl_map]
  unfold paintB
  exact foldl_congr _ _ (fun t ht b => by show b.set t.1 (zs.getD (eN t.2.2 + t.2.1) 0).toNat = _; rw [← eseq_mem ht])
theorem len_eN {N : Nat} {zs : List Int} (h : (zs.length : Int) = edg (N : Int)) : zs.length = eN N := by rw [← eN_edg] at h; omega
def Rel18 (n k : Int) (zs : List Int) (a : Option Addr) (w : World) (j : Nat) (wr : World) : Prop :=
  Blk wr w.heap.size (ccells 0 0 zbl).toArray 32 ∧ Blk wr (w.heap.size + 1) (ccells n k (putK zbl 0 zs j)).toArray 32 ∧ SlI wr a zs ∧ Below w.heap.size w wr
end Go.Proofs.Ytidengcihakijaa
/- ColouringOf: the program's own text. -/
namespace Go.Proofs.Ytidengcihakijaa
set_option linter.unusedVariables false
set_option linter.unusedSimpArgs false
open Go Go.RowKit Go.Shelf
theorem eix_eN {lo hi : Nat} (h : lo < hi) : eix (lo : Int) (hi : Int) = ((eN hi + lo : Nat) : Int) := by
  unfold eix
  rw [if_neg (by omega), Int.natCast_add, eN_edg]
theorem Below.drewN {B : Nat} {a w : World} (h : Below B a w) (n : Nat) : Below B a (w.drewN n) := ⟨h.1, h.2, h.3, h.4, h.5⟩
theorem SlI.drewN {w : World} {a : Option Addr} {zs : List Int} (h : SlI w a zs) (n : Nat) : SlI (w.drewN n) a zs := h
theorem edg_rng {zs : List Int} {k : Int} {N : Nat} (h : allB zs k = true) (hk : k ≤ 4) (hl : zs.length = eN N) (x : Edg N) : 0 ≤ zs.getD (eN x.1.2.2 + x.1.2.1) 0 ∧ zs.getD (eN x.1.2.2 + x.1.2.1) 0 < 256 := by
  obtain ⟨hx1, hx2, hx3⟩ := x.2
  have hx := x.lt
  exact all_lt h hk _ (by omega)
end Go.Proofs.Ytidengcihakijaa
